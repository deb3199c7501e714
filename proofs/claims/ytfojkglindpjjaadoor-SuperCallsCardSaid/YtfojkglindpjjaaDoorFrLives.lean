/-
  What the statements of layer 4 begin with: 'lives'.
-/
import Derived.Test.YtfojkglindpjjaaDoorFrEq
namespace Go.Proofs.YtfojkglindpjjaaDoor.Fr
open Go.RowKit Bs Dv
open Oct (putB)

def b128 : List Int := blk 128 3 1 [97, 98]
theorem b128_len : b128.length = 128 := blk_length 128 3 1 [97, 98] (by decide)
theorem b128_isB : Bs.IsB b128 := blk_isB 128 3 1 [97, 98] (by decide) (isB_of _ (by decide))
theorem b128_get : getF b128 = ((3, 1, [97, 98]), 0) := get_blk 128 (3, 1, [97, 98]) (by decide) ⟨by decide, by decide, isB_of _ (by decide)⟩ (by decide)
theorem b128_take : (strOfNums b128).extract 0 14 = ⟨#[3, 0, 2, 0, 1, 0, 0, 0, 0, 0, 0, 0, 97, 98]⟩ := by
  rw [str_extract]
  have e : (b128.drop 0).take 14 = [3, 0, 2, 0, 1, 0, 0, 0, 0, 0, 0, 0, 97, 98] := by
    unfold b128
    rw [blk_parts]
    rfl
  rw [show 14 - 0 = 14 from rfl, e]
  rfl

end Go.Proofs.YtfojkglindpjjaaDoor.Fr
