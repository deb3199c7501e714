/-
  Kind: the document's.
-/
import Derived.Test.YtfojkglindpjjaaDoorFrRGet
namespace Go.Proofs.YtfojkglindpjjaaDoor.Fr
open Go.RowKit Bs Dv

set_option maxRecDepth 100000 in
set_option maxHeartbeats 2000000 in
theorem rkind_any (B : List Int) (t : Int) (w : World) (hB : Bs.IsB B) (hlen : B.length ≤ 1000000) :
    Calls Tryd.prog 37 #[.string (strOfNums B), .int .u8 t] w fun e w' => e = fmE (kindF B t) ∧ w.grownBy w' none := by
  have p0 := heap_alloc_new w (.cells #[.int .u8 0, .int .u64 0, .string ⟨#[]⟩] 41)
  have t0 := Turn.alloc w (.cells #[.int .u8 0, .int .u64 0, .string ⟨#[]⟩] 41) nowhere
  have HGE := Lib.hid (rget_any B (w.alloc (.cells #[.int .u8 0, .int .u64 0, .string ⟨#[]⟩] 41)) hB hlen)
  have herr := get_err B
  obtain ⟨r, hr⟩ : ∃ r, r = getF B := ⟨_, rfl⟩
  have HK := Lib.hid (show kindF B t = if r.2 ≠ 0 then (none3, r.2) else if r.1.1 ≠ t then (none3, 11) else (r.1, 0) from by rw [hr]; rfl)
  rw [← hr] at HGE herr
  clear hr hB hlen
  obtain ⟨⟨x, gx, dx⟩, ex⟩ := r
  have HER := Lib.hid herr
  clear herr
  go_enter Tryd.func37, Tryd.ntmps37
  go_wp2_with fail
  refine HGE.out.mono ?_
  rintro e w1 ⟨rfl, hg1⟩
  have t1 := Turn.of_grown hg1 (S := nowhere) (fun i e => by cases e)
  have P1 := block_turn p0 t1 id
  have T1 := t0.trans t1 (fun _ _ e => e)
  have t2 := Turn.alloc w1 (.cells #[.int .u8 x, .int .u64 gx, .string (strOfNums dx)] 41) nowhere
  have P2 := Lib.hid (block_turn P1 t2 id)
  have Q2 := Lib.hid (heap_alloc_new w1 (.cells #[.int .u8 x, .int .u64 gx, .string (strOfNums dx)] 41))
  have T2 := T1.trans t2 (fun _ _ e => e)
  have HGR : Hid (∀ X2, Turn (w1.alloc (.cells #[.int .u8 x, .int .u64 gx, .string (strOfNums dx)] 41)) X2 (· = w.heap.size) → w.grownBy X2 none) := Lib.hid (fun X2 h => ⟨h.os.trans T2.os, h.tape.trans T2.tape, h.output.trans T2.output, Nat.le_trans T2.size h.size, fun i hi _ => (h.block i (Nat.lt_of_lt_of_le hi T2.size) (fun e => by have : i = w.heap.size := e; omega)).trans (T2.block i hi id)⟩)
  clear hg1 t1 P1 T1 t2 T2 p0 t0 HGE
  simp only [fmE, fmV]
  by_cases h1 : ex = 0
  · subst h1
    by_cases h2 : x = t
    · subst h2
      have HF : Hid (fmE (kindF B x) = fmE ((x, gx, dx), 0)) := Lib.hid (by rw [HK.out]; simp)
      have e2 : (x != x) = false := bne_self_eq_false _
      go_wp2_with (first
        | (with_reducible refine wpList_store_fm rfl (.tmp 4) (.tmp 22) rfl w.heap.size rfl (x, gx, dx) rfl _ _ _ P2.out ?_; intro X2 hx2 ht2)
        | fail)
      refine bodyPost_ret (run_results_fm rfl _ _ _ _ _ _ rfl hx2 (.int .i64 0) rfl) rfl ⟨HF.out.symm, HGR.out _ ht2⟩
    · have HF : Hid (fmE (kindF B t) = fmE (none3, 11)) := Lib.hid (by rw [HK.out]; simp [h2])
      have e2 : (x != t) = true := bne_iff_ne.2 h2
      clear h2
      go_wp2_with (first
        | (with_reducible refine wpList_store_fm rfl (.tmp 4) (.tmp 21) rfl w.heap.size rfl none3 rfl _ _ _ P2.out ?_; intro X2 hx2 ht2)
        | fail)
      refine bodyPost_ret (run_results_fm rfl _ _ _ _ _ _ rfl hx2 (.int .i64 11) rfl) rfl ⟨HF.out.symm, HGR.out _ ht2⟩
  · have hnn := HER.out h1
    have HF : Hid (fmE (kindF B t) = fmE ((x, gx, dx), ex)) := Lib.hid (by rw [HK.out, if_pos h1]; rw [show ((x, gx, dx) : Fm) = none3 from hnn])
    have e2 : (ex == 0) = false := beq_eq_false_iff_ne.2 h1
    clear h1 hnn
    go_wp2_with (first
      | (with_reducible refine wpList_store_fm rfl (.tmp 4) (.tmp 22) rfl w.heap.size rfl (x, gx, dx) rfl _ _ _ P2.out ?_; intro X2 hx2 ht2)
      | fail)
    refine bodyPost_ret (run_results_fm rfl _ _ _ _ _ _ rfl hx2 (.int .i64 ex) rfl) rfl ⟨HF.out.symm, HGR.out _ ht2⟩
end Go.Proofs.YtfojkglindpjjaaDoor.Fr
