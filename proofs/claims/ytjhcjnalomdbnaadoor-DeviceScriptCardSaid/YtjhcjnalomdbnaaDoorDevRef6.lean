/-
  The document's device: Image, New.
-/
import Derived.Test.YtjhcjnalomdbnaaDoorDevRef5
import Derived.Lib.AppendStr
namespace Go.Proofs.YtjhcjnalomdbnaaDoor.Dv
open Go.RowKit Bs

theorem strCells_of (l : List Int) (h : IsB l) : Go.Lib.strCells (strOfNums l) = l.map (Value.int .u8) := str_data l h

theorem take_flat (d : List (List Int)) (k : Nat) (hk : k < d.length) : (d.take (k + 1)).flatten = (d.take k).flatten ++ d.getD k [] := by
  rw [List.take_succ_eq_append_getElem hk, List.flatten_append, List.flatten_singleton]
  simp [List.getD, hk]

set_option maxRecDepth 100000 in
set_option maxHeartbeats 2000000 in
theorem rimage_any (g : Nat) (D P : Value) (s : St) (w : World) (h : Ref w g D P s) :
    Calls Tryd.prog 35 #[.pointer (some ⟨g, 0, none⟩)] w fun e w' => e = .returned (.string (strOfNums s.dur.flatten)) ∧ Turn w w' nowhere := by
  obtain ⟨i0, hi, hz0, hz1, hz2⟩ := info_parts info_u8
  have HH := Lib.hid h
  have HO := Lib.hid h.ok
  have hblo := h.ok.blo
  have hbhi := h.ok.bhi
  have hsz := h.ok.hi
  have hN : s.size * s.blocks ≤ 16777216 := Nat.le_trans (Nat.mul_le_mul hsz hbhi) (by decide)
  obtain ⟨da, dc, rfl, _, _, _, _⟩ := own_form h.dur
  obtain ⟨db, rfl⟩ := own_some h.dur (by omega)
  clear h
  go_enter Tryd.func35, Tryd.ntmps35
  go_wp2
  go_loopw [3, 4] (fun ov iv wr => ∃ k : Nat, k ≤ s.blocks ∧ iv = .int .i64 (k : Int) ∧ Hid (wr.ownsRow w.heap.size 5 1 ov (s.size * k) ((s.dur.take k).flatten.map (Value.int .u8))) ∧ Hid (Turn w wr nowhere)) (fun _ iv _ => s.blocks - (intOf iv).toNat)
  case atStart => exact ⟨0, Nat.zero_le _, rfl, World.ownsRow_nil _ _ _ _, Turn.refl _ _⟩
  case round =>
    obtain ⟨k, hk, rfl, HR, HQ⟩ := hrel
    have c2 : wr.cell? ⟨g, 1 + 1, none⟩ = some (.slice (some ⟨db, 0, none⟩) s.blocks dc) := HQ.out.cell HH.out.cells.2.2.1 id
    by_cases hlt : k < s.blocks
    · have hkd : k < s.dur.length := by rw [HO.out.dlen]; exact hlt
      have cD : wr.cell? ⟨db, k, none⟩ = some (.string (strOfNums (s.dur.getD k []))) := by
        have := HH.out.dur.cells (g := db) rfl k _ (srow_at s.dur k hkd)
        rw [Addr.add_lit, Nat.zero_add] at this
        exact HQ.out.cell this id
      have hgd := getD_mem HO.out.dblk hkd
      have HC := Lib.hid (strCells_of _ hgd.2)
      have HTF := Lib.hid (take_flat s.dur k hkd)
      obtain ⟨T, hT⟩ : ∃ T, T = strOfNums (s.dur.getD k []) := ⟨_, rfl⟩
      have HSZ := Lib.hid (show T.size = s.size by rw [hT, strOfNums_size, hgd.1])
      have hmul : s.size * (k + 1) ≤ s.size * s.blocks := Nat.mul_le_mul_left _ hlt
      rw [← hT] at cD HC
      have p0 : (0 : Int) ≤ (k : Int) := by omega
      have p1 : (k : Int) < (s.blocks : Int) := by omega
      have hbase := HQ.out.size
      clear hkd hgd hT
      go_wp2_with (first
        | (at_builtin
           refine Go.Lib.wpList_append_own_string _ rfl (.tmp 14) (.tmp 21) 68 9 rfl w.heap.size 5 i0 Tryd.underlying68 Tryd.underlying9 hi hz0 hz1 hz2 u3 (s.size * k) ((s.dur.take k).flatten.map (Value.int .u8)) (by rfl) HR.out T (by rfl) (by have := HSZ.out; rw [Nat.mul_succ] at hmul; unfold maxLen; omega) (by have := HSZ.out; rw [Nat.mul_succ] at hmul; omega) hbase ?_
           intro v' w3 hown hgrow hnil
           have HR3 : Hid (w3.ownsRow w.heap.size 5 1 v' (s.size * (k + 1)) ((s.dur.take (k + 1)).flatten.map (Value.int .u8))) := Lib.hid (by
             rw [HTF.out, List.map_append, ← HC.out, Nat.mul_succ]
             rw [HSZ.out] at hown
             exact hown)
           have HT3 : Hid (Turn w w3 nowhere) := Lib.hid (HQ.out.trans (Turn.of_grown (S := fun i => w.heap.size ≤ i) hgrow (fun i e hi => (HR.out.lt i e).1)) (fun i hi e => by omega))
           clear hown hgrow hnil)
        | fail)
      go_wp2
      go_roundw
      case rel => exact ⟨k + 1, by omega, by go_num, HR3, HT3⟩
      case measure => simp [intOf]; omega
    · obtain rfl : k = s.blocks := by omega
      have hown := HR.out
      rw [show s.dur.take s.blocks = s.dur from by rw [← HO.out.dlen, List.take_length]] at hown
      obtain ⟨oa, oc, rfl, _, _, _, _⟩ := own_form hown
      obtain ⟨ob, rfl⟩ := own_some hown (Nat.mul_pos (by have := HO.out.lo; omega) (by omega))
      have hcv := conv_any ob 0 _ oc _ wr (Reg.own hown) HO.out.len
      clear hown
      go_wp2
      go_ret
      exact ⟨rfl, HQ.out⟩
end Go.Proofs.YtjhcjnalomdbnaaDoor.Dv
