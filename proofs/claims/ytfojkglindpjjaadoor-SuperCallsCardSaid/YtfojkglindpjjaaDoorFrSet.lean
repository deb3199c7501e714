/-
  set: a part of a block is filled with a number's bytes.
-/
import Derived.Test.YtfojkglindpjjaaDoorMemMore
import Derived.Test.YtfojkglindpjjaaDoorFrCut
namespace Go.Proofs.YtfojkglindpjjaaDoor.Fr
open Go.RowKit Bs Dv
open Oct (putB ofB putB_length putB_isB ofB_putB ofB_bound)

theorem spl_zero (l v : List Int) (h : v.length = l.length) : spl l 0 v = v := by
  unfold spl
  rw [List.take_zero, List.nil_append, Nat.zero_add, h, List.drop_length, List.append_nil]

set_option maxHeartbeats 1000000 in
theorem set_any (b o m c : Nat) (v : Int) (l : List Int) (w : World) (h : Reg w b 0 l) (hm : 1 ≤ m) (h8 : m ≤ 8) (ho : o + m ≤ l.length) (h0 : 0 ≤ v) (h1 : v < 18446744073709551616) :
    Calls Tryd.prog 51 #[.slice (some ⟨b, o, none⟩) m c, .int .u64 v] w fun e w' => e = .returned (.tuple #[]) ∧ Reg w' b 0 (spl l o (putB m v)) ∧ Turn w w' (· = b) := by
  have HR := Lib.hid h
  have HB := Lib.hid (h.lt (fun e => by rw [e] at ho; simp at ho; omega))
  clear h
  go_enter Tryd.func51, Tryd.ntmps51
  go_wp2_with fail
  refine (Oct.put_yes none 0 0 [] v m w (Seg.nil w) h0 h1 hm h8 (by omega)).mono ?_
  rintro e w1 hn
  rw [List.nil_append] at hn
  obtain ⟨g, q, rfl, hn⟩ := hn.value
  obtain ⟨hq, hown, hg⟩ := hn.is
  rw [putB_length] at hq
  subst hq
  have R1 := HR.out.turn (Turn.of_grown hg (S := nowhere) (fun i e => by cases e)) id
  have RP := ((R1.sub o).take q)
  have ll : ((l.drop o).take q).length = q := by rw [List.length_take, List.length_drop]; omega
  have R0 := Lib.hid RP
  have SG := Lib.hid (Seg.own hown)
  have LL := Lib.hid ll
  have R1 := Lib.hid R1
  have HG := Lib.hid hg
  have HO := Lib.hid ho
  clear hn hown RP ll hg h0 h1 ho
  go_wp2_with (with_reducible refine wpList_copy_seg rfl (.tmp 4) (.tmp 8) rfl b o q c rfl ⟨g, 0, none⟩ q q _ (putB q v) rfl SG.out R0.out (Nat.le_refl _) (by rw [LL.out]; exact Nat.le_refl _) ?_; intro w2 hr2 ho2)
  rw [spl_zero _ _ (by rw [putB_length, LL.out])] at hr2
  have HF : Hid (Reg w2 b 0 (spl l o (putB q v)) ∧ Turn w w2 (· = b)) := by
    refine ⟨R1.out.patch hr2 (by rw [putB_length]; exact ho2) (by rw [putB_length]; exact HO.out), ?_⟩
    exact (Turn.of_grown HG.out (S := (· = b)) (fun i e => by cases e)).trans ho2.turn (fun _ _ e => e)
  clear hr2 ho2
  go_end0
  exact ⟨rfl, HF.out⟩
end Go.Proofs.YtfojkglindpjjaaDoor.Fr
