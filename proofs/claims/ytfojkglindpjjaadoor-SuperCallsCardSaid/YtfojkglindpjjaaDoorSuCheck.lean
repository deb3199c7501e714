/-
  The program's Check.
-/
import Derived.Test.YtfojkglindpjjaaDoorSuValid
namespace Go.Proofs.YtfojkglindpjjaaDoor.Su
open Go.RowKit Bs Dv Gr
open Fr (room)

set_option maxRecDepth 100000 in
set_option maxHeartbeats 2000000 in
theorem check_sup (s : Sup) (a : Option Addr) (n c : Nat) (w : World) (hs : Ws.Seg w a n c s.pages) (ho : SupOk s) :
    Calls Tryd.prog 16 #[.agg #[.int .u64 s.gen, .int .i64 s.size, .int .i64 s.blocks, .int .u32 s.root, .slice a n c]] w fun e w' => e = .returned (.int .i64 (supE s)) ∧ w.grownBy w' none := by
  have HB0 := Lib.hid (SB.new w s a n c)
  have HG0 := Lib.hid (grown_alloc w (.cells #[.int .u64 s.gen, .int .i64 s.size, .int .i64 s.blocks, .int .u32 s.root, .slice a n c] 29))
  obtain ⟨W0, hW0⟩ : ∃ X, w.alloc (.cells #[.int .u64 s.gen, .int .i64 s.size, .int .i64 s.blocks, .int .u32 s.root, .slice a n c] 29) = X := ⟨_, rfl⟩
  rw [hW0] at HB0 HG0
  have HV := Lib.hid (valid_any s a n c W0 (hs.grown HG0.out) ho)
  have HR := Lib.hid (fun W => Fr.room_any s.size W)
  have HL := Lib.hid hs.len
  obtain ⟨b, hb⟩ : ∃ b, decide (Valid s) = b := ⟨_, rfl⟩
  rw [hb] at HV
  have hle := hs.le
  have hcap := hs.cap
  unfold maxLen at hcap
  obtain ⟨q0, q1, q2, q3, q4⟩ := HB0.out.cells
  cases b with
  | false =>
    have hE : supE s = 2 := by unfold supE; rw [if_neg (of_decide_eq_false hb)]
    rw [hE]
    clear hb hE hs ho
    go_enter Tryd.func16, Tryd.ntmps16
    go_wp2_with fail
    refine HV.out.mono ?_
    rintro e w1 ⟨rfl, hg⟩
    have HG1 := Lib.hid (grown_then HG0.out hg)
    clear hg q0 q1 q2 q3 q4 HV
    dsimp only
    go_wp2
    go_ret
    exact ⟨rfl, HG1.out⟩
  | true =>
    have hv : Valid s := of_decide_eq_true hb
    have hE : supE s = if room s.size < 14 + 4 * (n : Int) then 3 else 0 := by unfold supE; rw [if_pos hv, HL.out]
    have hn : n ≤ 74 := by
      have h1 := hv.2.2.2.1
      have h2 := pages_bounds hv.1
      rw [HL.out] at h1
      omega
    rw [hE]
    obtain ⟨r, hr⟩ : ∃ r, room s.size = r := ⟨_, rfl⟩
    rw [hr] at HR ⊢
    have e1 : IntKind.i64.wrap (4 * (n : Int)) = 4 * (n : Int) := IntWalk.i64_in _ (by omega)
    have e2 : IntKind.i64.wrap (14 + 4 * (n : Int)) = 14 + 4 * (n : Int) := IntWalk.i64_in _ (by omega)
    clear hb hE hs ho hv hr
    by_cases h3 : r < 14 + 4 * (n : Int)
    · rw [if_pos h3]
      have e3 : decide (r < 14 + 4 * (n : Int)) = true := decide_eq_true h3
      clear h3
      go_enter Tryd.func16, Tryd.ntmps16
      go_wp2_with fail
      refine HV.out.mono ?_
      rintro e w1 ⟨rfl, hg⟩
      have HG1 := Lib.hid (grown_then HG0.out hg)
      obtain ⟨c0, c1, c2, c3, c4⟩ := (HB0.out.old hg).gw
      clear hg q0 q1 q2 q3 q4 HV
      dsimp only
      go_upto_region 3 with (fail)
      refine wp_region_grow (by kernel_rfl) ?_
      repeat (go_big_quiet_step (first | (go_at_call 33; with_reducible exact Calls.grow_of (HR.out _)) | fail))
      refine wpQuiet_nil ?_
      rintro _ ⟨p, rfl⟩
      have HGF := Lib.hid (grown_then HG1.out p.grown)
      clear c0 c1 c2 c3 c4
      go_wp2
      go_ret
      exact ⟨rfl, HGF.out⟩
    · rw [if_neg h3]
      have e3 : decide (r < 14 + 4 * (n : Int)) = false := decide_eq_false h3
      clear h3
      go_enter Tryd.func16, Tryd.ntmps16
      go_wp2_with fail
      refine HV.out.mono ?_
      rintro e w1 ⟨rfl, hg⟩
      have HG1 := Lib.hid (grown_then HG0.out hg)
      obtain ⟨c0, c1, c2, c3, c4⟩ := (HB0.out.old hg).gw
      clear hg q0 q1 q2 q3 q4 HV
      dsimp only
      go_upto_region 3 with (fail)
      refine wp_region_grow (by kernel_rfl) ?_
      repeat (go_big_quiet_step (first | (go_at_call 33; with_reducible exact Calls.grow_of (HR.out _)) | fail))
      refine wpQuiet_nil ?_
      rintro _ ⟨p, rfl⟩
      have HGF := Lib.hid (grown_then HG1.out p.grown)
      clear c0 c1 c2 c3 c4
      go_wp2
      go_ret
      exact ⟨rfl, HGF.out⟩
end Go.Proofs.YtfojkglindpjjaaDoor.Su
