/-
  The program's put and read: some counts as bytes, and back.
-/
import Derived.Test.YtkinmcnmdfpjbaaCnAll
import Derived.Test.YtkinmcnmdfpjbaaOctF
import Derived.Test.YtkinmcnmdfpjbaaMemMore
import Derived.Test.YtkinmcnmdfpjbaaCnApart
namespace Go.Proofs.Ytkinmcnmdfpjbaa.Cn
open Go.RowKit Bs Dv Gr
open Oct (putB ofB)

theorem bytes_snoc (l : List Int) (k : Nat) (hk : k < l.length) : bytesC (l.take (k + 1)) = bytesC (l.take k) ++ putB 2 (l.getD k 0) := by
  rw [List.take_succ_eq_append_getElem hk, bytes_app, List.getD_eq_getElem?_getD, List.getElem?_eq_getElem hk]
  show _ ++ (putB 2 l[k] ++ []) = _
  rw [List.append_nil]
  rfl

def room8 (S : Nat) : Array Value := madeCells (Value.int .u8 0).cells S
theorem make_room8 (S : Nat) (hS : S ≤ 1000000) (W : World) : (Instr.makeSlice 85 (.int .i64 0) (.int .i64 (S : Int))).run Try.prog W = .ok (.slice (some ⟨W.heap.size, 0, none⟩) 0 S) (W.alloc (.cells (room8 S) 5)) := by
  obtain ⟨i0, hi, hz0, hz1, hz2⟩ := info_parts info_u8
  have h := run_make (P := Try.prog) W 85 5 i0 (.int .u8 0) Try.underlying85 hi hz0 .i64 .i64 0 (S : Int) (by omega) (by omega) (by rw [hz2]; omega) (by omega)
  rw [hz1, Int.toNat_natCast, Nat.mul_one] at h
  exact h
theorem made_own8 (W : World) (S : Nat) (hS : S ≤ 1000000) : (W.alloc (.cells (room8 S) 5)).ownsRow W.heap.size 5 1 (.slice (some ⟨W.heap.size, 0, none⟩) 0 S) 0 [] :=
  World.ownsRow_made (base := W.heap.size) (e := 5) (size := 1) W (room8 S) S (Nat.le_refl _) (by unfold maxLen; omega) (by unfold room8; rw [size_madeCells, Nat.mul_one])

set_option maxHeartbeats 1000000 in
theorem put_any (ad : Addr) (n c : Nat) (l : List Int) (w : World) (hs : Hs.Seg w (some ad) n c l) (hcn : IsC l) (hn : n ≤ 4096) :
    Calls Try.prog 44 #[.slice (some ad) n c] w fun e w' => e = .returned (.string (strOfNums (bytesC l))) ∧ w.grownBy w' none := by
  obtain ⟨i0, hi, hz0, hz1, hz2⟩ := info_parts info_u8
  have hlen := hs.len
  have hcap := hs.cap
  have hle := hs.le
  unfold maxLen at hcap
  have HSEG := Lib.hid hs
  have HPU := Lib.hid (fun (v : Int) W (h0 : 0 ≤ v) (h1 : v < 65536) => Oct.put_yes none 0 0 [] v 2 W (Seg.nil W) h0 (by omega) (by decide) (by decide) (by decide))
  have HBS := Lib.hid (fun k (hk : k < n) => bytes_snoc l k (by rw [hlen]; exact hk))
  have HGT : Hid (∀ j, j < n → 0 ≤ l.getD j 0 ∧ l.getD j 0 < 65536) := Lib.hid (fun j hj => hcn _ (by rw [List.getD_eq_getElem?_getD, List.getElem?_eq_getElem (by rw [hlen]; exact hj)]; exact List.getElem_mem _))
  have HLEN := Lib.hid hlen
  have HTA : Hid (bytesC (l.take n) = bytesC l) := Lib.hid (by rw [List.take_of_length_le (by omega)])
  have HBL := Lib.hid (fun k (hk : k ≤ n) => (by rw [bytes_len, List.length_take, hlen]; omega : (bytesC (l.take k)).length = 2 * k))
  clear hs hcn hlen
  have hmk := make_room8 (2 * n) (by omega)
  have e2 : ((2 * n : Nat) : Int) = 2 * (n : Int) := by omega
  rw [e2] at hmk
  have HO0 := Lib.hid (made_own8 w (2 * n) (by omega))
  have HG0 := Lib.hid (grown_alloc w (.cells (room8 (2 * n)) 5))
  obtain ⟨W1, hW1⟩ : ∃ X, w.alloc (.cells (room8 (2 * n)) 5) = X := ⟨_, rfl⟩
  rw [hW1] at HO0 HG0
  have HW1 := Lib.hid hW1
  clear hW1
  clear e2
  go_enter Try.func44, Try.ntmps44
  go_wp2
  rw [HW1.out]
  go_loopw [3, 12] (fun s3 si wr => ∃ (k g' c' : Nat), k ≤ n ∧ si = .int .i64 k ∧ s3 = .slice (some ⟨g', 0, none⟩) (2 * k) c' ∧ Hid (wr.ownsRow w.heap.size 5 1 (.slice (some ⟨g', 0, none⟩) (2 * k) c') (2 * k) ((bytesC (l.take k)).map (Value.int .u8))) ∧ Hid (w.grownBy wr none)) (fun _ si _ => n - (intOf si).toNat)
  case atStart => exact ⟨0, w.heap.size, 2 * n, by omega, rfl, rfl, HO0, HG0⟩
  case round =>
    clear hmk HO0 HG0
    obtain ⟨k, g', c', hk, rfl, rfl, HO, HG⟩ := hrel
    by_cases hlt : k < n
    · have hq : decide (k < n) = true := decide_eq_true hlt
      have HS1 := Lib.hid (HSEG.out.grown HG.out)
      have hx := HGT.out k hlt
      have hcell : wr.cell? (ad.add k) = some (.int .u16 (l.getD k 0)) := HS1.out.at_ ad rfl k _ (by rw [List.getElem?_map, List.getElem?_eq_getElem (by rw [HLEN.out]; exact hlt), List.getD_eq_getElem?_getD, List.getElem?_eq_getElem (by rw [HLEN.out]; exact hlt)]; rfl)
      have HB := Lib.hid (HBS.out k hlt)
      obtain ⟨x, hxx⟩ : ∃ x, l.getD k 0 = x := ⟨_, rfl⟩
      rw [hxx] at hx hcell HB
      have e1 : IntKind.u64.wrap x = x := by rw [IntKind.wrap_u64]; omega
      have HP := Lib.hid (HPU.out x wr hx.1 hx.2)
      rw [List.nil_append] at HP
      have hlt4 : k < 4096 := by omega
      clear hxx hx
      go_wp2_with fail
      refine HP.out.mono ?_
      intro e w2 hnew
      obtain ⟨g2, q, rfl, hf⟩ := hnew.value
      obtain ⟨hq2, ho2, hg2⟩ := hf.is
      rw [Oct.putB_length] at hq2
      subst hq2
      have HSeg := Lib.hid (Seg.own ho2)
      have HO2 := Lib.hid (HO.out.kept hg2 (.inr (fun e => by cases e)))
      have HG2 := Lib.hid (grown_then HG.out hg2)
      have hbase : w.heap.size ≤ w2.heap.size := HG2.out.size
      clear hnew hf ho2 hg2 HO HG HP
      dsimp only
      go_wp2_with (at_builtin; refine wpList_append_seg rfl (.tmp 16) (.tmp 19) 85 rfl w.heap.size 5 i0 Try.underlying85 hi hz0 hz1 hz2 g' (2 * k) c' ((bytesC (l.take k)).map (Value.int .u8)) rfl HO2.out (some ⟨g2, 0, none⟩) 2 2 (putB 2 x) rfl HSeg.out (by omega) hbase ?_; intro g3 c3 w3 hown3 hgrow3; have HO3 := Lib.hid hown3; have HG3 := Lib.hid hgrow3; clear hown3 hgrow3)
      have HGN : Hid (w.grownBy w3 none) := Lib.hid (by
        have hb : w.heap.size ≤ g' := by
          rcases HO2.out.2 with ⟨e, _⟩ | ⟨g5, cap, cur, e, hb, _⟩
          · cases e
          · cases e; exact hb
        exact ⟨HG3.out.os.trans HG2.out.os, HG3.out.tape.trans HG2.out.tape, HG3.out.output.trans HG2.out.output, Nat.le_trans HG2.out.size HG3.out.size, fun i hi _ => (HG3.out.block i (Nat.lt_of_lt_of_le hi HG2.out.size) (fun e => by have := Option.some.inj e; omega)).trans (HG2.out.block i hi (by simp))⟩)
      have HON : Hid (w3.ownsRow w.heap.size 5 1 (.slice (some ⟨g3, 0, none⟩) (2 * (k + 1)) c3) (2 * (k + 1)) ((bytesC (l.take (k + 1))).map (Value.int .u8))) := Lib.hid (by
        rw [HB.out, List.map_append]
        exact HO3.out)
      go_roundw
      case rel => exact ⟨k + 1, g3, c3, by omega, by go_num, by rw [show 2 * (k + 1) = 2 * k + 2 by omega], HON, HGN⟩
      case measure => simp [intOf]; omega
    · have hq : decide (k < n) = false := decide_eq_false hlt
      obtain rfl : k = n := by omega
      have hcv := conv_any g' 0 (2 * k) c' (bytesC l) wr (by
        have h := HO.out
        rw [HTA.out] at h
        exact Reg.own h) (by have := HBL.out k (Nat.le_refl _); rw [HTA.out] at this; exact this)
      obtain ⟨S, hS⟩ : ∃ S, strOfNums (bytesC l) = S := ⟨_, rfl⟩
      rw [hS] at hcv
      have HS := Lib.hid hS
      clear hS HO
      go_wp2
      go_ret
      exact ⟨by rw [HS.out]; rfl, HG.out⟩
end Go.Proofs.Ytkinmcnmdfpjbaa.Cn
