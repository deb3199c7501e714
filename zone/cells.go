package zone

import (
	"cmp"
	"strings"

	"shadowbook/api"
)

// order is how a cell is to another one: negative if it is before it, 0 if they are equal, positive if it is after it.
type order int

func (o order) equal() bool     { return o == 0 }
func (o order) different() bool { return o != 0 }
func (o order) less() bool      { return o < 0 }
func (o order) notMore() bool   { return o <= 0 }
func (o order) more() bool      { return o > 0 }
func (o order) notLess() bool   { return o >= 0 }

// comparisons returns, by op, which orders it asks for.
func comparisons() [api.CmpGe + 1]func(order) bool {
	return [...]func(order) bool{
		api.CmpEq: order.equal,
		api.CmpNe: order.different,
		api.CmpLt: order.less,
		api.CmpLe: order.notMore,
		api.CmpGt: order.more,
		api.CmpGe: order.notLess,
	}
}

func compare(a, b api.Cell) order {
	return order(cmp.Or(
		cmp.Compare(a.Kind, b.Kind),
		cmp.Compare(a.Int, b.Int),
		strings.Compare(a.Text, b.Text),
	))
}

// null reports whether the kind of the cell is null, whatever its other fields are.
func null(c api.Cell) bool {
	return c.Kind == api.KindNull
}

// exact reports whether the kind of the cell exists, and the cell has nothing that this kind does not have.
func exact(c api.Cell) bool {
	switch c.Kind {
	case api.KindNull:
		return c == api.Cell{}
	case api.KindInt:
		return c == api.Cell{Kind: api.KindInt, Int: c.Int}
	case api.KindBool:
		return c == api.Cell{Kind: api.KindBool, Int: c.Int & 1}
	case api.KindText:
		return c == api.Cell{Kind: api.KindText, Text: c.Text}
	}
	return false
}
