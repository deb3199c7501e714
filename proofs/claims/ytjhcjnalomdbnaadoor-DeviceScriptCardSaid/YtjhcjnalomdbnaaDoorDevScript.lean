/-
  The device's laws: DeviceScript.
-/
import Derived.Test.YtjhcjnalomdbnaaDoorDevRefA
import Derived.Test.YtjhcjnalomdbnaaDoorDevRefB
import Derived.Deep.DeepCutAuto
import Derived.Deep.Cut
import Derived.Deep.CutRange
namespace Go.Proofs.YtjhcjnalomdbnaaDoor.Dv
open Go.RowKit Bs

theorem eql_geo_same (x y : Int) (w : World) : (binOp .eql 28 (.agg #[.int .i64 x, .int .i64 y]) (.agg #[.int .i64 x, .int .i64 y])).run Tryd.prog w = .ok (.bool true) w := by
  have hF : (Tryd.prog.fieldsOf 28).toList.map (fun f => (f.type, f.offset, decide (f.name ≠ "_"))) = [(3, 0, true), (3, 1, true)] := by kernel_rfl
  obtain ⟨f1, f2, hf, e1, e2, e3, e4, e5, e6⟩ : ∃ f1 f2 : Field, (Tryd.prog.fieldsOf 28).toList = [f1, f2] ∧ f1.type = 3 ∧ f1.offset = 0 ∧ f1.name ≠ "_" ∧ f2.type = 3 ∧ f2.offset = 1 ∧ f2.name ≠ "_" := by
    revert hF
    generalize (Tryd.prog.fieldsOf 28).toList = l
    intro hF
    rcases l with _ | ⟨f1, _ | ⟨f2, _ | ⟨f3, r⟩⟩⟩
    · cases hF
    · simp only [List.map_cons, List.map_nil, List.cons.injEq] at hF
      exact absurd hF.2 (by simp)
    · simp only [List.map_cons, List.map_nil, List.cons.injEq, Prod.mk.injEq, decide_eq_true_eq, and_true] at hF
      exact ⟨f1, f2, rfl, hF.1.1, hF.1.2.1, hF.1.2.2, hF.2.1, hF.2.2.1, hF.2.2.2⟩
    · simp only [List.map_cons, List.cons.injEq] at hF
      exact absurd hF.2.2 (by simp)
  have hu : Tryd.prog.underlying 28 = some (.struct (Tryd.prog.fieldsOf 28)) := by kernel_rfl
  rw [run_eql_struct, run_equalIn_struct w 9999 _ _ _ hu (by kernel_rfl), hf]
  simp [Op.eqFields, e1, e2, e3, e4, e5, e6, part, run_equalIn_int _ _ _ _ _ _ _ Tryd.underlying3, go_sem]

set_option maxRecDepth 100000 in
set_option maxHeartbeats 16000000 in
theorem script_any (size blocks : Int) (a : Option Addr) (n c : Nat) (l : List AAct) (w : World) (hA : ASeg w a n c l) (hT : T64 w) (hT2 : T32 w) :
    Calls Tryd.prog 4 #[.agg #[.int .i64 size, .int .i64 blocks], .slice a n c] w fun e w' => e = .returned (.bool true) ∧ Turn w w' nowhere := by
  have t1 : Turn w (w.alloc (.cells #[.int .i64 size, .int .i64 blocks] 28)) nowhere := Turn.alloc _ _ _
  have g0 : (w.alloc (.cells #[.int .i64 size, .int .i64 blocks] 28)).cell? ⟨w.heap.size, 0, none⟩ = some (.int .i64 size) := by simp [go_sem]
  have g1 : (w.alloc (.cells #[.int .i64 size, .int .i64 blocks] 28)).cell? ⟨w.heap.size, 1, none⟩ = some (.int .i64 blocks) := by simp [go_sem]
  have HL := Lib.hid (lives_any _ (hT.turn t1 id))
  have HT1 := Lib.hid (hT.turn t1 id)
  have HT2 := Lib.hid (hT2.turn t1 id)
  have HA := Lib.hid (hA.old t1)
  have hncap := Nat.le_trans hA.le hA.cap
  unfold maxLen at hncap
  have HTW := Lib.hid t1
  clear hT hT2 hA
  go_enter Tryd.func4, Tryd.ntmps4
  go_wp2_with fail
  obtain ⟨gg, hgg⟩ : ∃ gg, gg = w.heap.size := ⟨_, rfl⟩
  rw [← hgg] at g0 g1 ⊢
  generalize w.alloc (.cells #[.int .i64 size, .int .i64 blocks] 28) = w1 at *
  have HG := Lib.hid (fun W (k : Turn w1 W nowhere) => (⟨k.cell g0 id, k.cell g1 id⟩ : W.cell? ⟨gg, 0, none⟩ = some (.int .i64 size) ∧ W.cell? ⟨gg, 1, none⟩ = some (.int .i64 blocks)))
  clear g0 g1 hgg t1
  refine HL.out.mono ?_
  rintro e w2 ⟨rfl, t2⟩
  obtain ⟨g0, g1⟩ := HG.out w2 t2
  go_wp2_with fail
  refine (light_any size blocks w2).mono ?_
  rintro e w3 ⟨rfl, t3⟩
  have t13 := t2.trans t3 (fun _ _ h => h)
  clear g0 g1 t2 t3
  by_cases hlt : LightS size blocks = true ∧ n ≤ 40
  · obtain ⟨hl, h40⟩ := hlt
    rw [hl]
    have h40' : decide ((40 : Int) < (n : Int)) = false := decide_eq_false (by omega)
    obtain ⟨g0, g1⟩ := HG.out w3 t13
    go_wp2_with fail
    cases hg : geoB size blocks with
    | false =>
      refine (new_no size blocks w3 hg).mono ?_
      rintro e w4 ⟨rfl, t4⟩
      have t14 := t13.trans t4 (fun _ _ h => h)
      clear g0 g1 t13 t4
      obtain ⟨g0, g1⟩ := HG.out w4 t14
      go_wp2_with fail
      refine (rnew_no size blocks w4 hg).mono ?_
      rintro e w5 ⟨rfl, t5⟩
      have t15 := t14.trans t5 (fun _ _ h => h)
      clear g0 g1 t14 t5
      obtain ⟨g0, g1⟩ := HG.out w5 t15
      go_wp2_with fail
      go_region_held3 (fun w' => w'.cell? ⟨gg, 0, none⟩ = some (.int .i64 size) ∧ w'.cell? ⟨gg, 1, none⟩ = some (.int .i64 blocks)) (go_keep)
        (first
          | (go_at_call 24
             refine (check_any size blocks _).mono ?_
             rintro e w6 ⟨rfl, e6⟩
             have t16 : Hid (Turn w1 w6 nowhere) := Lib.hid (by rw [e6]; exact (t15.trans (Turn.drew _ _) (fun _ _ h => h)).trans (Turn.alloc _ _ _) (fun _ _ h => h))
             have k0 := (HG.out w6 t16.out).1
             have k1 := (HG.out w6 t16.out).2
             clear e6)
          | (go_at_call 25
             refine (rcheck_any size blocks _).mono ?_
             rintro e w7 ⟨rfl, t7⟩
             have t17 : Hid (Turn w1 w7 nowhere) := Lib.hid (t16.out.trans t7 (fun _ _ h => h))
             have m0 := (HG.out w7 t17.out).1
             have m1 := (HG.out w7 t17.out).2)
          | fail)
      clear g0 g1 k0 k1 m0 m1 t7
      have hfin := HTW.out.trans t17.out (fun _ _ h => h)
      have HF := Lib.hid hfin
      clear hfin
      by_cases h0 : n = 0
      · subst h0
        go_wp2
        refine wp_loop_rounds 1 ?_
        rw [rounds_succ]
        go_wp2
        go_quiet (fail)
        go_wp2
        go_ret
        exact ⟨rfl, HF.out.trans (Turn.drewN _ _ _) (fun _ _ h => h)⟩
      · have h0' : 0 < n := by omega
        go_wp2
        refine wp_loop_rounds 1 ?_
        rw [rounds_succ]
        go_wp2
        go_quiet (fail)
        go_wp2
        go_ret
        exact ⟨rfl, HF.out.trans (Turn.drewN _ _ _) (fun _ _ h => h)⟩
    | true =>
      have hgo := of_decide_eq_true hg
      obtain ⟨S, rfl⟩ : ∃ S : Nat, size = (S : Int) := ⟨size.toNat, by omega⟩
      obtain ⟨K, rfl⟩ : ∃ K : Nat, blocks = (K : Int) := ⟨blocks.toNat, by omega⟩
      have hS : S ≤ 4096 := by omega
      refine (new_yes S K w3 hg).mono ?_
      intro e w4 hx4
      obtain ⟨g, b, rfl, hd4, t4⟩ := held_new t13 hx4
      have t14 := t13.trans t4 (fun _ _ h => h)
      dsimp only
      clear g0 g1 t13 t4 hx4
      obtain ⟨g0, g1⟩ := HG.out w4 t14
      go_wp2_with fail
      refine (rnew_yes S K w4 hg).mono ?_
      rintro e w5 ⟨o, D, rfl, hr5, hn5, t5⟩
      have hb5 := Both.fresh hd4 hr5 hn5 t5
      have t15 := t14.trans t5 (fun _ _ h => h)
      have HB5 := Lib.hid hb5
      dsimp only
      clear g0 g1 t14 t5 hd4 hr5 hn5 hb5
      obtain ⟨g0, g1⟩ := HG.out w5 t15
      go_wp2_with fail
      go_region_held3 (fun w' => w'.cell? ⟨gg, 0, none⟩ = some (.int .i64 (S : Int)) ∧ w'.cell? ⟨gg, 1, none⟩ = some (.int .i64 (K : Int))) (go_keep)
        (first
          | (go_at_call 24
             refine (check_any S K _).mono ?_
             rintro e w6 ⟨rfl, e6⟩
             have t56 : Hid (Turn w5 w6 nowhere) := Lib.hid (by rw [e6]; exact (Turn.drew _ _).trans (Turn.alloc _ _ _) (fun _ _ h => h))
             have k0 := (HG.out w6 (t15.trans t56.out (fun _ _ h => h))).1
             have k1 := (HG.out w6 (t15.trans t56.out (fun _ _ h => h))).2
             clear e6)
          | (go_at_call 25
             refine (rcheck_any S K _).mono ?_
             rintro e w7 ⟨rfl, t7⟩
             have t57 : Hid (Turn w5 w7 nowhere) := Lib.hid (t56.out.trans t7 (fun _ _ h => h))
             have m0 := (HG.out w7 (t15.trans t57.out (fun _ _ h => h))).1
             have m1 := (HG.out w7 (t15.trans t57.out (fun _ _ h => h))).2)
          | fail)
      have HB7 := Lib.hid (HB5.out.go t57.out)
      have HS7 := Lib.hid (SInv.start S K (zeros S K))
      clear g0 g1 k0 k1 m0 m1 t7 t15 t57 HB5 h40'
      go_wp2
      go_loopw [5, 7, 9] (fun dv ov iv wr => ∃ (k : Nat) (g b : Nat) (P : Value) (s : St) (o : Nat) (D R : Value), k ≤ n ∧ dv = .pointer (some ⟨g, 0, none⟩) ∧ ov = .pointer (some ⟨o, 0, none⟩) ∧ iv = .int .i64 (k : Int) ∧ Hid (Both w1 wr g b P s o D R s) ∧ Hid (SInv S K k s)) (fun _ _ iv _ => n - (intOf iv).toNat)
      case atStart => exact ⟨0, g, b, _, _, o, D, _, Nat.zero_le _, rfl, rfl, rfl, HB7.out, HS7.out⟩
      case round =>
        clear HB7 HS7
        obtain ⟨k, g, b, P, s, o, D, R, hk, rfl, rfl, rfl, HB, HS⟩ := hrel
        by_cases hkn : k < n
        · obtain ⟨B, O, rfl, hat⟩ := HA.out.form (by omega)
          obtain ⟨hax, hok⟩ := hat k hkn
          clear hat
          obtain ⟨x, hx⟩ : ∃ x, x = l.getD k default := ⟨_, rfl⟩
          rw [← hx] at hax hok
          have HOX := Lib.hid (hok.old HB.out.d.turn)
          have p0 : (0 : Int) ≤ (k : Int) := by omega
          have p1 : (k : Int) < (n : Int) := by omega
          obtain ⟨a0, a1, a2, a3, a4, a5⟩ := hax.old HB.out.d.turn
          clear hax hok hx
          by_cases hp40 : x.pn ≤ 40
          · have hd : decide ((40 : Int) < (x.pn : Int)) = false := decide_eq_false (by omega)
            have HP := Lib.hid (fun w => pick_any x.kind 7 w (by omega) (by omega))
            have hpr := pick_range x.kind 7 (by omega)
            obtain ⟨q, hq⟩ : ∃ q : Nat, pick x.kind 7 = (q : Int) := ⟨(pick x.kind 7).toNat, by omega⟩
            rw [hq] at HP hpr
            have hq7 : q < 7 := by omega
            have HAN : Hid (ActNew (wr.alloc (.cells #[.int .i64 x.kind, .int .i64 x.block, .int .u8 x.b, .int .i64 x.n, .int .u32 (x.mask : Int), .slice x.pa x.pn x.pc] 54)) wr.heap.size x) := Lib.hid (by
              constructor <;> simp [go_sem])
            have HB6 := Lib.hid (HB.out.go (Turn.alloc wr (.cells #[.int .i64 x.kind, .int .i64 x.block, .int .u8 x.b, .int .i64 x.n, .int .u32 (x.mask : Int), .slice x.pa x.pn x.pc] 54) nowhere))
            have HOX6 := Lib.hid (HOX.out.old (Turn.alloc wr (.cells #[.int .i64 x.kind, .int .i64 x.block, .int .u8 x.b, .int .i64 x.n, .int .u32 (x.mask : Int), .slice x.pa x.pn x.pc] 54) nowhere))
            have HAF : Hid (∀ i, fp g b P i → i ≠ wr.heap.size) := Lib.hid (fun i hi e => by have := HB.out.d.dev.lt i hi; omega)
            have HAR : Hid (∀ i, fpR o D R i → i ≠ wr.heap.size) := Lib.hid (fun i hi e => by have := HB.out.r.lt i hi; omega)
            clear hq hpr
            go_upto_region 16 with fail
            clear a0 a1 a2 a3 a4 a5 HOX HB
            generalize wr.alloc (.cells #[.int .i64 x.kind, .int .i64 x.block, .int .u8 x.b, .int .i64 x.n, .int .u32 (x.mask : Int), .slice x.pa x.pn x.pc] 54) = w6 at *
            obtain ⟨ab, hab⟩ : ∃ ab, ab = wr.heap.size := ⟨_, rfl⟩
            rw [← hab] at HAN HAF HAR ⊢
            obtain ⟨a0, a1, a2, a3, a4, a5⟩ := HAN.out
            clear hab
            go_wp2_with fail
            refine (HP.out _).mono ?_
            rintro e w7 ⟨rfl, rfl⟩
            dsimp only
            go_step
            go_step
            go_step
            go_step
            go_cut [5, 7, 11] (fun dv ov sv wx => ∃ (g b : Nat) (P : Value) (s : St) (o : Nat) (D R : Value), dv = .pointer (some ⟨g, 0, none⟩) ∧ ov = .pointer (some ⟨o, 0, none⟩) ∧ sv = .bool true ∧ Hid (Both w1 wx g b P s o D R s) ∧ Hid (SInv S K (k + 1) s))
            case first =>
              have hsp := HS.out.pend
              have hso := HS.out.ops
              have hko : s.ops < 1000000 := by omega
              have hkp : s.pend.length < 1000000 := by omega
              obtain ⟨g0, _⟩ := HG.out w6 HB6.out.d.turn
              rcases (by omega : (q = 0 ∨ q = 1) ∨ q = 2 ∨ q = 3 ∨ q = 4 ∨ q = 5 ∨ q = 6) with hq | hq | hq | hq | hq | hq
              · as_aux_lemma =>
                have HBY := Lib.hid (fun w => abytes_any x S w (by omega))
                have HQB := Lib.hid (AAct.bytes_isB HOX6.out S)
                have HQL := Lib.hid (AAct.bytes_len x S)
                obtain ⟨nl, hnl⟩ : ∃ nl, nl = x.bytes S := ⟨_, rfl⟩
                rw [← hnl] at HBY HQB HQL
                obtain ⟨r, hr⟩ : ∃ r, r = s.write x.block nl := ⟨_, rfl⟩
                have HI2 : Hid (SInv S K (k + 1) r.2) := Lib.hid (by rw [hr]; exact HS.out.write _ _)
                have HRW : Hid (∀ W, Ref W o D R s → Calls Tryd.prog 28 #[.pointer (some ⟨o, 0, none⟩), .int .i64 x.block, .string (strOfNums nl)] W (RWrote o D R r W)) := Lib.hid (fun W h => by rw [hr]; exact rwrite_any o D R s x.block nl W h HQB.out hkp hko)
                have HDW : Hid (∀ W, Dev W g b P s → Calls Tryd.prog 13 #[.pointer (some ⟨g, 0, none⟩), .int .i64 x.block, .string (strOfNums nl)] W (Wrote g b P r W)) := Lib.hid (fun W h => by rw [hr]; exact write_any g b P s x.block nl W h HQB.out (by rw [HQL.out]; omega) hkp hko)
                obtain ⟨U, hU⟩ : ∃ U, U = strOfNums nl := ⟨_, rfl⟩
                rw [← hU] at HBY HRW HDW
                clear hnl hr hU hsp hso
                rcases hq with rfl | rfl
                all_goals
                  go_wp2_with fail
                  refine (HBY.out _).mono ?_
                  rintro e w8 ⟨rfl, t8⟩
                  have HB8 := Lib.hid ((HB6.out.go t8).go (Turn.drew w8 nowhere))
                  have b1 := t8.cell a1 id
                  clear a0 a1 a2 a3 a4 a5 g0 t8
                  go_wp2_with fail
                  go_region_held3 (fun w' => w'.cell? ⟨ab, 0 + 1, none⟩ = some (.int .i64 x.block)) (go_keep)
                    (first
                      | (go_at_call 13
                         (with_reducible refine (HDW.out _ ?hd).mono ?_)
                         case hd => exact HB8.out.d.dev
                         intro e w9 hx9
                         obtain ⟨P9, rfl, hb9, ht9⟩ := HB8.out.wrote hx9
                         have n1 := ht9.cell (p := ⟨ab, 0 + 1, none⟩) (by exact b1) (fun e => HAF.out ab e rfl)
                         have HB9 := Lib.hid hb9
                         clear hx9 hb9
                         dsimp only)
                      | (go_at_call 28
                         (with_reducible refine (HRW.out _ ?hr).mono ?_)
                         case hr => exact HB9.out.r
                         intro e w10 hx10
                         obtain ⟨R10, rfl, hb10, ht10⟩ := HB9.out.rwrote hx10
                         have m1 := ht10.cell n1 (fun e => HAR.out ab e rfl)
                         have HB10 := Lib.hid hb10
                         clear hx10 hb10
                         dsimp only)
                      | fail)
                  clear n1 m1 b1 ht9 ht10
                  go_wp2
                  go_meet
                  case rel => exact ⟨g, b, P9, r.2, o, D, R10, rfl, rfl, rfl, HB10.out, HI2.out⟩
              · as_aux_lemma =>
                subst hq
                obtain ⟨z, hz⟩ : ∃ z, z = (s.read x.block).2 := ⟨_, rfl⟩
                obtain ⟨T, hTT⟩ : ∃ T, T = strOfNums (s.read x.block).1 := ⟨_, rfl⟩
                have HRD := Lib.hid (fun W (h : Dev W g b P s) => (by have := read_any g b P s x.block W h; rwa [← hz, ← hTT] at this : Calls Tryd.prog 16 #[.pointer (some ⟨g, 0, none⟩), .int .i64 x.block] W fun e w' => e = .returned (.tuple #[.string T, .int .i64 z]) ∧ Turn W w' nowhere))
                have HRR := Lib.hid (fun W (h : Ref W o D R s) => (by have := rread_any o D R s x.block W h; rwa [← hz, ← hTT] at this : Calls Tryd.prog 29 #[.pointer (some ⟨o, 0, none⟩), .int .i64 x.block] W fun e w' => e = .returned (.tuple #[.string T, .int .i64 z]) ∧ W = w'))
                have eT : (T.toList == T.toList) = true := beq_self_eq_true _
                clear hz hTT hsp hso
                go_wp2_with fail
                refine (HRD.out w6 HB6.out.d.dev).mono ?_
                rintro e w8 ⟨rfl, t8⟩
                have HB8 := Lib.hid (HB6.out.go t8)
                have b1 := t8.cell a1 id
                clear a0 a1 a2 a3 a4 a5 g0 t8
                dsimp only
                go_wp2_with fail
                refine (HRR.out w8 HB8.out.r).mono ?_
                rintro e w9 ⟨rfl, rfl⟩
                dsimp only
                go_wp2
                go_meet
                case rel => exact ⟨g, b, P, s, o, D, R, rfl, rfl, rfl, HB8.out, HS.out.more⟩
              · as_aux_lemma =>
                subst hq
                obtain ⟨r, hr⟩ : ∃ r, r = s.flush := ⟨_, rfl⟩
                have HI2 : Hid (SInv S K (k + 1) r.2) := Lib.hid (by rw [hr]; exact HS.out.flush)
                have HDF : Hid (∀ W, Dev W g b P s → Calls Tryd.prog 17 #[.pointer (some ⟨g, 0, none⟩)] W (Wrote g b P r W)) := Lib.hid (fun W h => by rw [hr]; exact flush_any g b P s W h hko)
                have HRF : Hid (∀ W, Ref W o D R s → Calls Tryd.prog 30 #[.pointer (some ⟨o, 0, none⟩)] W (RWrote o D R r W)) := Lib.hid (fun W h => by rw [hr]; exact rflush_any o D R s W h hko)
                clear hr hsp hso a0 a1 a2 a3 a4 a5 g0
                go_wp2_with fail
                refine (HDF.out w6 HB6.out.d.dev).mono ?_
                intro e w8 hx8
                obtain ⟨P8, rfl, hb8, _⟩ := HB6.out.wrote hx8
                have HB8 := Lib.hid hb8
                clear hx8 hb8
                dsimp only
                go_wp2_with fail
                refine (HRF.out w8 HB8.out.r).mono ?_
                intro e w9 hx9
                obtain ⟨R9, rfl, hb9, _⟩ := HB8.out.rwrote hx9
                have HB9 := Lib.hid hb9
                clear hx9 hb9
                dsimp only
                go_wp2
                go_meet
                case rel => exact ⟨g, b, P8, r.2, o, D, R9, rfl, rfl, rfl, HB9.out, HI2.out⟩
              · as_aux_lemma =>
                subst hq
                have HRR := Lib.hid (fun W (h : Ref W o D R s) => rrot_any o D R s x.block x.n x.mask W h HOX6.out.mask)
                have HB6d := Lib.hid (HB6.out.go (Turn.drew w6 nowhere))
                by_cases hr : rotOk s x.block x.n x.mask
                · have HDR := Lib.hid (fun W (h : Held w1 W g b P s) => rot_yes g b P s x.block x.n x.mask W h.dev HOX6.out.mask hr (HT2.out.held h) (HT2.out.ne h))
                  have HRO := Lib.hid hr
                  clear hsp hso hr g0
                  go_wp2_with fail
                  go_region_held3 (fun w' => w'.cell? ⟨ab, 0 + 1, none⟩ = some (.int .i64 x.block) ∧ w'.cell? ⟨ab, 0 + 3, none⟩ = some (.int .i64 x.n) ∧ w'.cell? ⟨ab, 0 + 4, none⟩ = some (.int .u32 (x.mask : Int))) (go_keep)
                    (first
                      | (go_at_call 18
                         (with_reducible refine (HDR.out _ ?hd).mono ?_)
                         case hd => exact HB6d.out.d
                         intro e w9 hx9
                         obtain ⟨rfl, hb9, ht9⟩ := HB6d.out.rot hx9
                         have n1 := ht9.cell (p := ⟨ab, 0 + 1, none⟩) (by exact a1) (fun e => HAF.out ab e rfl)
                         have n3 := ht9.cell (p := ⟨ab, 0 + 3, none⟩) (by exact a3) (fun e => HAF.out ab e rfl)
                         have n4 := ht9.cell (p := ⟨ab, 0 + 4, none⟩) (by exact a4) (fun e => HAF.out ab e rfl)
                         have HB9 := Lib.hid hb9
                         clear hx9 hb9
                         dsimp only)
                      | (go_at_call 31
                         (with_reducible refine (HRR.out _ ?hr).mono ?_)
                         case hr => exact HB9.out.r
                         intro e w10 hx10
                         obtain ⟨_, rfl, hr10, ht10⟩ := hx10.resolve_left (fun h => h.1 HRO.out)
                         have m1 := ht10.cell n1 (fun e => HAR.out ab e rfl)
                         have m3 := ht10.cell n3 (fun e => HAR.out ab e rfl)
                         have m4 := ht10.cell n4 (fun e => HAR.out ab e rfl)
                         have HB10 := Lib.hid (HB9.out.rrot hr10 ht10)
                         clear hx10 hr10
                         dsimp only)
                      | fail)
                  clear n1 n3 n4 m1 m3 m4 ht9 ht10 a0 a1 a2 a3 a4 a5
                  go_wp2
                  go_meet
                  case rel => exact ⟨g, b, P, _, o, D, R, rfl, rfl, rfl, HB10.out, HS.out.rot _ _ _⟩
                · have HDR := Lib.hid (fun W (h : Dev W g b P s) => rot_no g b P s x.block x.n x.mask W h HOX6.out.mask HOX6.out.n.2 hr)
                  have HRO := Lib.hid hr
                  clear hsp hso hr g0
                  go_wp2_with fail
                  go_region_held3 (fun w' => w'.cell? ⟨ab, 0 + 1, none⟩ = some (.int .i64 x.block) ∧ w'.cell? ⟨ab, 0 + 3, none⟩ = some (.int .i64 x.n) ∧ w'.cell? ⟨ab, 0 + 4, none⟩ = some (.int .u32 (x.mask : Int))) (go_keep)
                    (first
                      | (go_at_call 18
                         (with_reducible refine (HDR.out _ ?hd).mono ?_)
                         case hd => exact HB6d.out.d.dev
                         rintro e w9 ⟨rfl, ht9⟩
                         have n1 := ht9.cell (p := ⟨ab, 0 + 1, none⟩) (by exact a1) id
                         have n3 := ht9.cell (p := ⟨ab, 0 + 3, none⟩) (by exact a3) id
                         have n4 := ht9.cell (p := ⟨ab, 0 + 4, none⟩) (by exact a4) id
                         have HB9 := Lib.hid (HB6d.out.go ht9)
                         dsimp only)
                      | (go_at_call 31
                         (with_reducible refine (HRR.out _ ?hr).mono ?_)
                         case hr => exact HB9.out.r
                         intro e w10 hx10
                         obtain ⟨_, rfl, rfl⟩ := hx10.resolve_right (fun h => HRO.out h.1)
                         dsimp only)
                      | fail)
                  clear n1 n3 n4 ht9 a0 a1 a2 a3 a4 a5
                  go_wp2
                  go_meet
                  case rel => exact ⟨g, b, P, s, o, D, R, rfl, rfl, rfl, HB9.out, HS.out.more⟩
              · as_aux_lemma =>
                subst hq
                have HDF := Lib.hid (fun W (h : Dev W g b P s) => fuse_any g b P s x.n W h HOX6.out.n)
                have HRF := Lib.hid (fun W (h : Ref W o D R s) => rfuse_any o D R s x.n W h HOX6.out.n)
                clear hsp hso g0
                go_wp2_with fail
                refine (HDF.out w6 HB6.out.d.dev).mono ?_
                intro e w8 hx8
                obtain ⟨rfl, hb8, ht8⟩ := HB6.out.fused hx8
                have HB8 := Lib.hid hb8
                have b3 := ht8.cell a3 (fun e => HAF.out ab e rfl)
                clear hx8 hb8 ht8 a0 a1 a2 a3 a4 a5
                dsimp only
                go_wp2_with fail
                refine (HRF.out w8 HB8.out.r).mono ?_
                intro e w9 hx9
                obtain ⟨rfl, hb9⟩ := HB8.out.rfused hx9
                have HB9 := Lib.hid hb9
                clear hx9 hb9
                dsimp only
                go_wp2
                go_meet
                case rel => exact ⟨g, b, P, _, o, D, R, rfl, rfl, rfl, HB9.out, HS.out.fuse _⟩
              · as_aux_lemma =>
                subst hq
                obtain ⟨T, hTT⟩ : ∃ T, T = strOfNums s.dur.flatten := ⟨_, rfl⟩
                have HIM := Lib.hid (fun W (h : Dev W g b P s) => (by have := image_any g b P s W h; rwa [← hTT] at this : Calls Tryd.prog 34 #[.pointer (some ⟨g, 0, none⟩)] W fun e w' => e = .returned (.string T) ∧ W = w'))
                have HIR := Lib.hid (fun W (h : Ref W o D R s) => (by have := rimage_any o D R s W h; rwa [← hTT] at this : Calls Tryd.prog 35 #[.pointer (some ⟨o, 0, none⟩)] W fun e w' => e = .returned (.string T) ∧ Turn W w' nowhere))
                have eT : (T.toList == T.toList) = true := beq_self_eq_true _
                have eT2 : (T.toList != T.toList) = false := by simp
                have HRC := Lib.hid (fun W (t : Turn w6 W nowhere) => rcrash_any o D R s x.pa x.pn x.pc x.picks W ((HB6.out.go t).r) (HOX6.out.picks.old t) (by omega))
                clear hTT hsp hso g0
                by_cases hr : picksOk s x.picks
                · have HDC := Lib.hid (crash_yes g b P s x.pa x.pn x.pc x.picks w6 HB6.out.d.dev HOX6.out.picks hr (HT1.out.held HB6.out.d))
                  have HRO := Lib.hid hr
                  clear hr
                  go_wp2_with fail
                  refine HDC.out.mono ?_
                  intro e w8 hx8
                  obtain ⟨g2, b2, rfl, _, hd8, t8⟩ := held_crash HB6.out.d.turn hx8
                  have HD8 := Lib.hid hd8
                  have HT8 := Lib.hid t8
                  have b5 := t8.cell a5 id
                  clear hx8 hd8 t8 a0 a1 a2 a3 a4 a5
                  dsimp only
                  go_wp2_with fail
                  refine (HRC.out w8 HT8.out).mono ?_
                  intro e w9 hx9
                  obtain ⟨_, o2, D2, rfl, hr9, hn9, t9⟩ := hx9.resolve_left (fun h => h.1 HRO.out)
                  have HB9 := Lib.hid (HB6.out.go (HT8.out.trans t9 (fun _ _ h => h)))
                  have HN9 := Lib.hid (Both.fresh HD8.out hr9 hn9 t9)
                  clear hx9 hr9 hn9 t9
                  dsimp only
                  go_wp2_with fail
                  refine (HIM.out w9 HB9.out.d.dev).mono ?_
                  rintro e w10 ⟨rfl, rfl⟩
                  go_wp2_with fail
                  refine (HIR.out w9 HB9.out.r).mono ?_
                  rintro e w11 ⟨rfl, t11⟩
                  have HN11 := Lib.hid (HN9.out.go t11)
                  clear t11
                  go_wp2
                  go_meet
                  case rel => exact ⟨g2, b2, _, _, o2, D2, _, rfl, rfl, rfl, HN11.out, HS.out.crash _⟩
                · have HDC := Lib.hid (crash_no g b P s x.pa x.pn x.pc x.picks w6 HB6.out.d.dev HOX6.out.picks hr)
                  have HRO := Lib.hid hr
                  clear hr
                  go_wp2_with fail
                  refine HDC.out.mono ?_
                  rintro e w8 ⟨rfl, t8⟩
                  have HT8 := Lib.hid t8
                  have b5 := t8.cell a5 id
                  clear t8 a0 a1 a2 a3 a4 a5
                  dsimp only
                  go_wp2_with fail
                  refine (HRC.out w8 HT8.out).mono ?_
                  intro e w9 hx9
                  obtain ⟨_, rfl, t9⟩ := hx9.resolve_right (fun h => HRO.out h.1)
                  have HB9 := Lib.hid (HB6.out.go (HT8.out.trans t9 (fun _ _ h => h)))
                  clear hx9 t9
                  dsimp only
                  go_wp2_with fail
                  refine (HIM.out w9 HB9.out.d.dev).mono ?_
                  rintro e w10 ⟨rfl, rfl⟩
                  go_wp2_with fail
                  refine (HIR.out w9 HB9.out.r).mono ?_
                  rintro e w11 ⟨rfl, t11⟩
                  have HB11 := Lib.hid (HB9.out.go t11)
                  clear t11
                  go_wp2
                  go_meet
                  case rel => exact ⟨g, b, P, s, o, D, R, rfl, rfl, rfl, HB11.out, HS.out.more⟩
            case rest =>
             as_aux_lemma =>
              clear a0 a1 a2 a3 a4 a5 HAN HAF HAR HB6 HOX6 HS HP
              obtain ⟨g, b, P, s, o, D, R, rfl, rfl, rfl, HB, HS⟩ := hcut
              have HBG := Lib.hid (fun W (t : Turn wc W nowhere) => HB.out.go t)
              obtain ⟨ra, rc, rfl, _, _⟩ := WSeg.own HB.out.r.row
              obtain ⟨N, hN⟩ : ∃ N, N = s.pend.length := ⟨_, rfl⟩
              have HRW := Lib.hid (fun W (t : Turn wc W nowhere) => (by
                obtain ⟨ra', rc', e, hw, _⟩ := WSeg.own (HB.out.go t).r.row
                cases e
                rw [← hN] at hw
                exact hw : WSeg W ra N rc s.pend))
              have HPE := Lib.hid (fun W (t : Turn wc W nowhere) => (by have := pending_any g b P s W (HB.out.go t).d.dev; rwa [← hN] at this : Calls Tryd.prog 21 #[.pointer (some ⟨g, 0, none⟩)] W (NewW W N s.pend)))
              have c3 : wc.cell? ⟨o, 3, none⟩ = some (.slice ra N rc) := by rw [hN]; exact HB.out.r.cells.2.2.2.1
              have c4 : wc.cell? ⟨o, 4, none⟩ = some (.int .i64 (s.ops : Int)) := HB.out.r.cells.2.2.2.2.1
              have hNle : N ≤ 1000000 := by rw [hN]; exact HB.out.d.dev.ok.few
              clear hN
              go_wp2_with fail
              go_region_held3 (fun w' => w'.cell? ⟨o, 3, none⟩ = some (.slice ra N rc) ∧ w'.cell? ⟨o, 4, none⟩ = some (.int .i64 (s.ops : Int))) (go_keep)
                (first
                  | (go_at_call 20
                     (with_reducible refine (ops_any g b P s _ ?hd).mono ?_)
                     case hd => exact (HBG.out _ (Turn.drew _ _)).d.dev
                     rintro e w8 ⟨rfl, rfl⟩)
                  | (go_at_call 21
                     (with_reducible refine (HPE.out _ ?ht).mono ?_)
                     case ht => exact Turn.drew _ _
                     rintro e w9 ⟨qa, qc, rfl, hws, _, t9⟩
                     have T9 : Hid (Turn wc w9 nowhere) := Lib.hid ((Turn.drew wc nowhere).trans t9 (fun _ _ h => h))
                     have k3 := T9.out.cell c3 id
                     have k4 := T9.out.cell c4 id)
                  | (go_at_call 36
                     (with_reducible refine (rsame_yes qa ra N qc rc s.pend _ ?h1 ?h2 hNle).mono ?_)
                     case h1 => exact hws
                     case h2 => exact HRW.out _ T9.out
                     rintro e w10 ⟨rfl, t10⟩
                     have T10 : Hid (Turn wc w10 nowhere) := Lib.hid (T9.out.trans t10 (fun _ _ h => h))
                     have m3 := T10.out.cell c3 id
                     have m4 := T10.out.cell c4 id)
                  | fail)
              have HB10 := Lib.hid (HBG.out _ T10.out)
              clear c3 c4 k3 k4 m3 m4 hws t9 t10
              go_wp2
              go_roundw
              case rel => exact ⟨k + 1, g, b, P, s, o, D, _, by omega, rfl, rfl, by go_num, HB10.out, HS.out⟩
              case measure => simp [intOf]; omega
          · have hd : decide ((40 : Int) < (x.pn : Int)) = true := decide_eq_true (by omega)
            have HF : Hid (Turn w (wr.alloc (.cells #[.int .i64 x.kind, .int .i64 x.block, .int .u8 x.b, .int .i64 x.n, .int .u32 (x.mask : Int), .slice x.pa x.pn x.pc] 54)) nowhere) := Lib.hid ((HTW.out.trans HB.out.d.turn (fun _ _ h => h)).trans (Turn.alloc _ _ _) (fun _ _ h => h))
            clear hp40
            go_wp2
            go_ret
            exact ⟨rfl, HF.out⟩
        · as_aux_lemma =>
          obtain rfl : n = k := by omega
          have hss := HS.out.size
          have hsb := HS.out.blocks
          obtain ⟨T, hTT⟩ : ∃ T, T = strOfNums s.dur.flatten := ⟨_, rfl⟩
          have HIM := Lib.hid (fun W (h : Dev W g b P s) => (by have := image_any g b P s W h; rwa [← hTT] at this : Calls Tryd.prog 34 #[.pointer (some ⟨g, 0, none⟩)] W fun e w' => e = .returned (.string T) ∧ W = w'))
          have HIR := Lib.hid (fun W (h : Ref W o D R s) => (by have := rimage_any o D R s W h; rwa [← hTT] at this : Calls Tryd.prog 35 #[.pointer (some ⟨o, 0, none⟩)] W fun e w' => e = .returned (.string T) ∧ Turn W w' nowhere))
          have HGE := Lib.hid (fun W (h : Dev W g b P s) => (by have := geo_any g b P s W h; rwa [hss, hsb] at this : Calls Tryd.prog 37 #[.pointer (some ⟨g, 0, none⟩)] W fun e w' => e = .returned (.agg #[.int .i64 (S : Int), .int .i64 (K : Int)]) ∧ Turn W w' nowhere))
          have eT : (T.toList == T.toList) = true := beq_self_eq_true _
          have heq := eql_geo_same (S : Int) (K : Int)
          have HBG := Lib.hid (fun W (t : Turn wr W nowhere) => HB.out.go t)
          have c0 : wr.cell? ⟨o, 0, none⟩ = some (.int .i64 (S : Int)) := by rw [← hss]; exact HB.out.r.cells.1
          have c1 : wr.cell? ⟨o, 1, none⟩ = some (.int .i64 (K : Int)) := by rw [← hsb]; exact HB.out.r.cells.2.1
          have HTB := Lib.hid HB.out.d.turn
          have HBd := Lib.hid (HB.out.go (Turn.drew wr nowhere))
          clear hTT hss hsb HB HA hkn
          go_wp2_with fail
          go_region_held3 (fun w' => w'.cell? ⟨o, 0, none⟩ = some (.int .i64 (S : Int)) ∧ w'.cell? ⟨o, 1, none⟩ = some (.int .i64 (K : Int))) (go_keep)
            (first
              | (go_at_call 34
                 (with_reducible refine (HIM.out _ ?hd).mono ?_)
                 case hd => exact HBd.out.d.dev
                 rintro e w8 ⟨rfl, rfl⟩)
              | (go_at_call 35
                 (with_reducible refine (HIR.out _ ?hr).mono ?_)
                 case hr => exact HBd.out.r
                 rintro e w9 ⟨rfl, t9⟩
                 have T9 : Hid (Turn wr w9 nowhere) := Lib.hid ((Turn.drew wr nowhere).trans t9 (fun _ _ h => h))
                 have k0 := T9.out.cell c0 id
                 have k1 := T9.out.cell c1 id)
              | (go_at_call 37
                 (with_reducible refine (HGE.out _ ?hd).mono ?_)
                 case hd => exact (HBG.out _ T9.out).d.dev
                 rintro e w10 ⟨rfl, t10⟩
                 have T10 : Hid (Turn wr w10 nowhere) := Lib.hid (T9.out.trans t10 (fun _ _ h => h))
                 have m0 := T10.out.cell c0 id
                 have m1 := T10.out.cell c1 id)
              | fail)
          have HF : Hid (Turn w w10 nowhere) := Lib.hid ((HTW.out.trans HTB.out (fun _ _ h => h)).trans T10.out (fun _ _ h => h))
          clear c0 c1 k0 k1 m0 m1 t9 t10
          go_wp2
          go_ret
          exact ⟨rfl, HF.out⟩
  · have HF4 := Lib.hid (HTW.out.trans t13 (fun _ _ h => h))
    cases hl : LightS size blocks with
    | false =>
      go_wp2
      go_ret
      exact ⟨rfl, HF4.out⟩
    | true =>
      have h40' : decide ((40 : Int) < (n : Int)) = true := decide_eq_true (by
        have h41 : ¬ n ≤ 40 := fun h => hlt ⟨hl, h⟩
        omega)
      go_wp2
      go_ret
      exact ⟨rfl, HF4.out⟩
end Go.Proofs.YtjhcjnalomdbnaaDoor.Dv
