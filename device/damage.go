package device

import (
	"bytes"
	"math/bits"

	"shadowbook/api"
)

// Crash returns the device as it is after a crash in which only the picked sectors of pending writes came through.
func (d *Device) Crash(l []api.Pick) (*Device, api.Errno) {
	switch {
	case !d.valid():
		return nil, api.ErrNil
	case !d.canPick(l):
		return nil, api.ErrArg
	}
	after := with(d.geo, bytes.Clone(d.durable))
	for _, p := range l {
		w := d.pending[p.Write]
		putSectors(after.at(w.Block), w.Bytes, p.Sectors)
	}
	return after, api.OK
}

// Rot inverts bits in the durable contents of a block: bit + i for each bit i of the mask.
func (d *Device) Rot(block, bit int, mask uint32) api.Errno {
	if e := d.find(block); e != api.OK {
		return e
	}
	room := 8 * d.geo.Size
	if bit < 0 || mask == 0 || bits.Len32(mask) > room-bit { // from a bit beyond the end on, no mask fits
		return api.ErrArg
	}
	b := d.at(block)
	for ; mask != 0; mask &= mask - 1 {
		k := bit + bits.TrailingZeros32(mask)
		b[k/8] ^= 1 << (k % 8)
	}
	return api.OK
}

// canPick tells whether each pick is one of its own of the pending writes, with sectors that a block has.
func (d *Device) canPick(l []api.Pick) bool {
	picked := make([]bool, len(d.pending))
	for _, p := range l {
		if p.Write < 0 || p.Write >= len(picked) || picked[p.Write] {
			return false
		}
		if bits.Len64(p.Sectors) > d.geo.Size/api.Sector {
			return false
		}
		picked[p.Write] = true
	}
	return true
}

// putSectors overwrites those sectors of a block whose bit is 1.
func putSectors(block []byte, b string, sectors uint64) {
	for ; sectors != 0; sectors &= sectors - 1 {
		from := api.Sector * bits.TrailingZeros64(sectors)
		copy(block[from:], b[from:from+api.Sector])
	}
}
