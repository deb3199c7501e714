/-
  SuperTorn: a newer super written over the other one, whatever sectors of it come through.
-/
import Derived.Test.YtfojkglindpjjaaDoorSuLaw
import Derived.Test.YtfojkglindpjjaaDoorSuCopy
namespace Go.Proofs.YtfojkglindpjjaaDoor.Su
open Go.RowKit Bs Dv Gr Cp
open Fr (getF kindF none3 strE)

theorem empty_get2 : (getS []).2 ≠ 0 := by decide +kernel
set_option maxRecDepth 100000 in
set_option maxHeartbeats 8000000 in
theorem torn_any (s : Sup) (a : Option Addr) (n c : Nat) (t : Sup) (p : Option Addr) (m q : Nat) (l : List Int) (mask : Int) (w : World) (hs : Ws.Seg w a n c s.pages) (ho : SupOk s) (ht : Ws.Seg w p m q t.pages) (hot : SupOk t) (hl : Bs.IsB l) (hm : 0 ≤ mask ∧ mask ≤ 18446744073709551615) (hT : T4 w) :
    Calls Tryd.prog 5 #[.agg #[.int .u64 s.gen, .int .i64 s.size, .int .i64 s.blocks, .int .u32 s.root, .slice a n c], .agg #[.int .u64 t.gen, .int .i64 t.size, .int .i64 t.blocks, .int .u32 t.root, .slice p m q], .string (strOfNums l), .int .u64 mask] w fun e w' => e = .returned (.bool true) ∧ w.grownBy w' none := by
  obtain ⟨mk, rfl⟩ := Int.eq_ofNat_of_zero_le hm.1
  have g1 := grown_alloc w (.cells #[.int .u64 s.gen, .int .i64 s.size, .int .i64 s.blocks, .int .u32 s.root, .slice a n c] 29)
  have s1 := SB.new w s a n c
  have z1 : (w.alloc (.cells #[.int .u64 s.gen, .int .i64 s.size, .int .i64 s.blocks, .int .u32 s.root, .slice a n c] 29)).heap.size = w.heap.size + 1 := by simp
  obtain ⟨W0, hW0⟩ : ∃ X, w.alloc (.cells #[.int .u64 s.gen, .int .i64 s.size, .int .i64 s.blocks, .int .u32 s.root, .slice a n c] 29) = X := ⟨_, rfl⟩
  rw [hW0] at g1 s1 z1
  have g2 := grown_alloc W0 (.cells #[.int .u64 t.gen, .int .i64 t.size, .int .i64 t.blocks, .int .u32 t.root, .slice p m q] 29)
  have s2 := SB.new W0 t p m q
  have s3 := s1.old g2
  obtain ⟨W1, hW1⟩ : ∃ X, W0.alloc (.cells #[.int .u64 t.gen, .int .i64 t.size, .int .i64 t.blocks, .int .u32 t.root, .slice p m q] 29) = X := ⟨_, rfl⟩
  rw [hW1] at g2 s2 s3
  have HG0 := Lib.hid (grown_then g1 g2)
  have HB0 := Lib.hid s3
  have HD0 := Lib.hid s2
  have HT := Lib.hid hT
  have HLV := Lib.hid (lives_any W1 (hT.grown HG0.out))
  have HPS := Lib.hid (fun W (k : w.grownBy W none) => put_sup s a n c W (hs.grown k) ho (hT.grown k))
  have HPT := Lib.hid (fun W (k : w.grownBy W none) => put_sup t p m q W (ht.grown k) hot (hT.grown k))
  have HES := Lib.hid (put_e s)
  have HET := Lib.hid (put_e t)
  have HGS := Lib.hid (fun h : supE s = 0 => get_put h ho)
  have HGT := Lib.hid (fun h : supE t = 0 => get_put h hot)
  have HBS : Hid (Bs.IsB (putS s).1 ∧ (putS s).1.length ≤ 4096) := Lib.hid ⟨put_isB, put_short s⟩
  have HBT : Hid (Bs.IsB (putS t).1 ∧ (putS t).1.length ≤ 4096) := Lib.hid ⟨put_isB, put_short t⟩
  obtain ⟨⟨PA, E1⟩, hpa⟩ : ∃ r, putS s = r := ⟨_, rfl⟩
  obtain ⟨⟨PB, E2⟩, hpb⟩ : ∃ r, putS t = r := ⟨_, rfl⟩
  rw [hpa] at HPS HES HGS HBS
  rw [hpb] at HPT HET HGT HBT
  unfold strE at HPS HPT
  dsimp only at HPS HPT HES HET HGS HGT HBS HBT
  have hza : (strOfNums PA).size = PA.length := strOfNums_size PA
  have hzb : (strOfNums PB).size = PB.length := strOfNums_size PB
  have hzl : (strOfNums l).size = l.length := strOfNums_size l
  have HIB := Lib.hid hl
  have HHS := Lib.hid hs
  have HHT := Lib.hid ht
  obtain ⟨TA, hTA⟩ : ∃ S, strOfNums PA = S := ⟨_, rfl⟩
  obtain ⟨TB, hTB⟩ : ∃ S, strOfNums PB = S := ⟨_, rfl⟩
  obtain ⟨TL, hTL⟩ : ∃ S, strOfNums l = S := ⟨_, rfl⟩
  rw [hTA] at HPS hza
  rw [hTB] at HPT hzb
  rw [hTL] at hzl ⊢
  have HZA := Lib.hid hza
  have HZB := Lib.hid hzb
  have HZL := Lib.hid hzl
  clear hza hzb hzl
  have HTA := Lib.hid hTA
  have HTB := Lib.hid hTB
  have HTL := Lib.hid hTL
  have hle := hs.le
  have hcap := hs.cap
  have hle2 := ht.le
  have hcap2 := ht.cap
  unfold maxLen at hcap hcap2
  have hwl : w.heap.size < W0.heap.size := by omega
  clear hpa hpb hTA hTB hTL hT hl ho hot hs ht g1 g2 s1 s2 s3 z1
  go_enter Tryd.func5, Tryd.ntmps5
  go_wp2_with fail
  refine HLV.out.mono ?_
  rintro e w1 ⟨rfl, hg⟩
  have G1 := Lib.hid (grown_then HG0.out hg)
  have HB1 := Lib.hid (HB0.out.old hg)
  have HD1 := Lib.hid (HD0.out.old hg)
  clear hg HLV HB0 HD0 HG0 hW0 hW1
  dsimp only
  obtain ⟨a0, a1, a2, a3, a4⟩ := HB1.out.cells
  obtain ⟨b0, b1, b2, b3, b4⟩ := HD1.out.cells
  by_cases h1 : 40 < n
  · have q1 : decide ((40 : Int) < (n : Int)) = true := decide_eq_true (by omega)
    clear h1
    go_wp2
    go_ret
    exact ⟨rfl, G1.out⟩
  by_cases h2 : 40 < m
  · have q1 : decide ((40 : Int) < (n : Int)) = false := decide_eq_false (by omega)
    have q2 : decide ((40 : Int) < (m : Int)) = true := decide_eq_true (by omega)
    clear h1 h2
    go_wp2
    go_ret
    exact ⟨rfl, G1.out⟩
  have q1 : decide ((40 : Int) < (n : Int)) = false := decide_eq_false (by omega)
  have q2 : decide ((40 : Int) < (m : Int)) = false := decide_eq_false (by omega)
  clear h1 h2
  go_wp2_with fail
  refine (HPS.out _ G1.out).mono ?_
  rintro e w2 ⟨rfl, hg⟩
  have G2 := Lib.hid (grown_then G1.out hg)
  have HB2 := Lib.hid (HB1.out.old hg)
  have HD2 := Lib.hid (HD1.out.old hg)
  clear hg HPS G1 HB1 HD1 a0 a1 a2 a3 a4 b0 b1 b2 b3 b4 q1 q2
  dsimp only
  obtain ⟨b0, b1, b2, b3, b4⟩ := HD2.out.cells
  go_wp2_with fail
  refine (HPT.out _ G2.out).mono ?_
  rintro e w3 ⟨rfl, hg⟩
  have G3 := Lib.hid (grown_then G2.out hg)
  have HB3 := Lib.hid (HB2.out.old hg)
  have HD3 := Lib.hid (HD2.out.old hg)
  clear hg HPT G2 HB2 HD2 b0 b1 b2 b3 b4
  dsimp only
  obtain ⟨a0, a1, a2, a3, a4⟩ := HB3.out.cells
  obtain ⟨b0, b1, b2, b3, b4⟩ := HD3.out.cells
  by_cases hE1 : E1 = 0
  case neg =>
    have e1 : (E1 != 0) = true := bne_iff_ne.2 hE1
    clear hE1
    go_wp2
    go_ret
    exact ⟨rfl, G3.out⟩
  by_cases hE2 : E2 = 0
  case neg =>
    have e1 : (E1 != 0) = false := by rw [hE1]; rfl
    have e2 : (E2 != 0) = true := bne_iff_ne.2 hE2
    clear hE1 hE2
    go_wp2
    go_ret
    exact ⟨rfl, G3.out⟩
  have e1 : (E1 != 0) = false := by rw [hE1]; rfl
  have e2 : (E2 != 0) = false := by rw [hE2]; rfl
  by_cases hAB : TA.size = TB.size
  case neg =>
    have e3 : ¬ (TA.size : Int) = (TB.size : Int) := fun e => hAB (by omega)
    clear hAB hE1 hE2
    go_wp2
    go_ret
    exact ⟨rfl, G3.out⟩
  by_cases hLB : TL.size = TB.size
  case neg =>
    have e3 : (TA.size : Int) = (TB.size : Int) := by rw [hAB]
    have e4 : ¬ (TL.size : Int) = (TB.size : Int) := fun e => hLB (by omega)
    clear hAB hLB hE1 hE2
    go_wp2
    go_ret
    exact ⟨rfl, G3.out⟩
  have e3 : (TA.size : Int) = (TB.size : Int) := by rw [hAB]
  have e4 : (TL.size : Int) = (TB.size : Int) := by rw [hLB]
  by_cases hgn : t.gen ≤ s.gen
  · have e5 : decide (t.gen ≤ s.gen) = true := decide_eq_true hgn
    clear hAB hLB hE1 hE2 hgn
    go_wp2
    go_ret
    exact ⟨rfl, G3.out⟩
  have e5 : decide (t.gen ≤ s.gen) = false := decide_eq_false hgn
  have hga := HGS.out (by rw [← HES.out]; exact hE1)
  have hgb := HGT.out (by rw [← HET.out]; exact hE2)
  have HCL := Lib.hid (fun W (hT : T4 W) => choose_any PA l W HBS.out.1 HIB.out (Nat.le_trans HBS.out.2 (by decide)) (by have h1 := HBT.out.2; have h2 := HZB.out; have h3 := HZL.out; omega) hT)
  have hok := choose_ok (b := l) hga
  obtain ⟨⟨z1, zs, z3⟩, hz⟩ : ∃ r, chooseS PA l = r := ⟨_, rfl⟩
  rw [hz] at HCL hok
  dsimp only at hok
  subst hok
  unfold ChoseX at HCL
  dsimp only at HCL
  rw [HTA.out, HTL.out] at HCL
  have HGA := Lib.hid hga
  have HGB := Lib.hid hgb
  have HGN : Hid (s.gen < t.gen) := Lib.hid (by omega)
  subst hE1 hE2
  clear hga hgb hz hgn HGS HGT HES HET
  go_wp2_with fail
  refine (HCL.out _ (HT.out.grown G3.out)).mono ?_
  rintro e w4 ⟨hg, p4, m4, q4, rfl, -, -⟩
  have hg4 := grown_then hg (grown_alloc w4 (.cells #[.int .u64 zs.gen, .int .i64 zs.size, .int .i64 zs.blocks, .int .u32 zs.root, .slice p4 m4 q4] 29))
  have G4 := Lib.hid (grown_then G3.out hg4)
  have HB4 := Lib.hid (HB3.out.old hg4)
  have HD4 := Lib.hid (HD3.out.old hg4)
  clear hg hg4 G3 HB3 HD3 a0 a1 a2 a3 a4 b0 b1 b2 b3 b4 HCL e1 e2 e3 e4 e5
  dsimp only
  go_upto_region 10 with (fail)
  obtain ⟨W4, hW4⟩ : ∃ X, w4.alloc (.cells #[.int .u64 zs.gen, .int .i64 zs.size, .int .i64 zs.blocks, .int .u32 zs.root, .slice p4 m4 q4] 29) = X := ⟨_, rfl⟩
  rw [hW4] at G4 HB4 HD4 ⊢
  clear hW4
  by_cases hz0 : z1 = 0
  case neg =>
    have e1 : (z1 != 0) = true := bne_iff_ne.2 hz0
    clear hz0
    go_wp2
    go_ret
    exact ⟨rfl, G4.out⟩
  subst hz0
  obtain ⟨cap, W5, hrun, hreg, htn, hv1, hv2⟩ := conv_bytes l HIB.out (by have h1 := HBT.out.2; have h2 := HZB.out; have h3 := HZL.out; omega) W4
  have G5 := Lib.hid (grown_then G4.out htn.grown)
  have HB5 := Lib.hid (HB4.out.old htn.grown)
  have HD5 := Lib.hid (HD4.out.old htn.grown)
  rw [HTL.out] at hrun
  have hbl := HB4.out.lt
  have hdl := HD4.out.lt
  obtain ⟨gt, hgt⟩ : ∃ g, W4.heap.size = g := ⟨_, rfl⟩
  rw [hgt] at hreg hbl hdl
  have hgs : w.heap.size < gt := by omega
  have hrun2 : (convert 9 48 (.string TL)).run Tryd.prog W4 = .ok (.slice (some ⟨gt, 0, none⟩) l.length cap) W5 := by rw [← hgt]; exact hrun
  have HREG := Lib.hid hreg
  have hgt5 : gt < W5.heap.size := by
    by_cases h0 : l = []
    · have h1 := htn.size
      have h2 := HBT.out.2
      exfalso
      have h3 := HGB.out
      have h4 : PB.length = 0 := by rw [← HZB.out, ← hLB, HZL.out, h0]; rfl
      have h5 := List.eq_nil_of_length_eq_zero h4
      rw [h5] at h3
      exact empty_get2 (by rw [h3])
    · exact hreg.lt h0
  have HGT5 := Lib.hid hgt5
  obtain ⟨N, hN⟩ : ∃ N, PB.length = N := ⟨_, rfl⟩
  have hlN : l.length = N := by have h2 := HZB.out; have h3 := HZL.out; omega
  rw [hlN] at hrun2 hv1
  have HLN := Lib.hid hlN
  have HPN := Lib.hid hN
  have hN4 : N ≤ 4096 := by rw [← hN]; exact HBT.out.2
  have HZN : Hid (TB.size = N) := Lib.hid (by have h2 := HZB.out; omega)
  clear hrun hreg htn hgt hAB hLB hlN hN hgt5
  obtain ⟨Z, hZ⟩ : ∃ Z, N / 64 = Z := ⟨_, rfl⟩
  have hZ1 : 64 * Z ≤ N := by omega
  have e1 : (TB.size : Int).tdiv 64 = (Z : Int) := by rw [HZN.out, Int.tdiv_eq_ediv_of_nonneg (by omega)]; omega
  have e2 : IntKind.i64.wrap (Z : Int) = (Z : Int) := IntWalk.i64_in _ (by omega)
  clear hZ G4 HB4 HD4
  go_wp2
  clear hrun2
  go_loopw [17] (fun si wr => ∃ (k : Nat) (tn : List Int), k ≤ Z ∧ si = .int .i64 k ∧ Hid (Bs.IsB tn ∧ tn.length = N) ∧ Hid (Reg wr gt 0 tn) ∧ Hid (w.grownBy wr none) ∧ Hid (SB wr w.heap.size s a n c) ∧ Hid (SB wr W0.heap.size t p m q) ∧ Hid (gt < wr.heap.size)) (fun si _ => Z - (intOf si).toNat)
  case atStart => exact ⟨0, l, Nat.zero_le _, rfl, Lib.hid ⟨HIB.out, HLN.out⟩, HREG, G5, HB5, HD5, HGT5⟩
  case round =>
    clear HREG G5 HB5 HD5 HGT5
    obtain ⟨k, tn, hk, rfl, HTN, HRG, HG, HB, HD, HGTL⟩ := hrel
    by_cases hlt : k < Z
    · have hq0 : decide (k < Z) = true := decide_eq_true hlt
      have hem := mask_rem mk k
      have ek : IntKind.u64.wrap (k : Int) = (k : Int) := u64n (by omega)
      by_cases hb : mk / 2 ^ k % 2 = 1
      · have e3 : (((mk / 2 ^ k % 2 : Nat) : Int) == 1) = true := by rw [hb]; rfl
        clear hb
        generalize mk / 2 ^ k % 2 = z at hem e3
        have w0 : IntKind.i64.wrap ((k : Int) + 1) = (k : Int) + 1 := by rw [IntKind.wrap_i64]; omega
        have w1 : IntKind.i64.wrap ((k : Int) * 64) = (k : Int) * 64 := by rw [IntKind.wrap_i64]; omega
        have w2 : IntKind.i64.wrap (((k : Int) + 1) * 64) = ((k : Int) + 1) * 64 := by rw [IntKind.wrap_i64]; omega
        have i1 : ¬ ((k : Int) * 64 < 0) := by omega
        have i2 : ¬ ((k : Int) + 1) * 64 < (k : Int) * 64 := by omega
        have i3 : ((k : Int) + 1) * 64 ≤ (cap : Int) := by omega
        have i4 : (0 : Int) ≤ (k : Int) * 64 := by omega
        have i5 : (k : Int) * 64 ≤ ((k : Int) + 1) * 64 := by omega
        have i6 : (k : Int) * 64 ≤ (TB.size : Int) := by rw [HZN.out]; omega
        have i7 : (0 : Int) ≤ ((k : Int) + 1) * 64 := by omega
        have i8 : ¬ cap = k * 64 := by omega
        have i9 : (k : Int) * 64 ≤ (cap : Int) := by omega
        have i10 : (k : Int) * 64 ≤ max (((k : Int) + 1) * 64) 0 := by omega
        have i11 : (k : Int) * 64 ≤ (k : Int) * 64 + 64 := by omega
        have e4 : ((k : Int) * 64).toNat = k * 64 := by omega
        have e5 : (((k : Int) + 1) * 64).toNat = k * 64 + 64 := by omega
        have HV : Hid (TB.extract (k * 64) TB.size = strOfNums (PB.drop (k * 64))) := Lib.hid (by rw [HZN.out, ← HTB.out, str_extract, List.take_of_length_le (by rw [List.length_drop, HPN.out]; omega)])
        have hdl2 : ((tn.drop (k * 64)).take 64).length = 64 := by rw [List.length_take, List.length_drop, HTN.out.2]; omega
        have hpl2 : ((PB.drop (k * 64)).take 64).length = 64 := by rw [List.length_take, List.length_drop, HPN.out]; omega
        have HRS : Hid (Reg wr.drew gt (k * 64) ((tn.drop (k * 64)).take 64)) := Lib.hid (((HRG.out.turn (Turn.drew wr nowhere) id).sub (k * 64)).take 64)
        have HNX : Hid (∀ w3, Reg w3 gt (k * 64) (spl ((tn.drop (k * 64)).take 64) 0 ((PB.drop (k * 64)).take 64)) → Out wr.drew w3 gt (k * 64) 64 → Reg w3 gt 0 (spl tn (k * 64) ((PB.drop (k * 64)).take 64)) ∧ Turn wr w3 (· = gt)) := Lib.hid (fun w3 hr3 ho3 => by
          have hsp : spl ((tn.drop (k * 64)).take 64) 0 ((PB.drop (k * 64)).take 64) = (PB.drop (k * 64)).take 64 := by
            unfold spl
            rw [List.take_zero, List.nil_append, Nat.zero_add, hpl2, List.drop_of_length_le (Nat.le_of_eq hdl2), List.append_nil]
          rw [hsp] at hr3
          refine ⟨Reg.patch (HRG.out.turn (Turn.drew wr nowhere) id) hr3 (by rw [hpl2]; exact ho3) (by rw [hpl2, HTN.out.2]; omega), (Turn.drew wr (· = gt)).trans ho3.turn (fun _ _ e => e)⟩)
        have HTN2 : Hid (Bs.IsB (spl tn (k * 64) ((PB.drop (k * 64)).take 64)) ∧ (spl tn (k * 64) ((PB.drop (k * 64)).take 64)).length = N) := Lib.hid ⟨by
          unfold spl
          exact Dv.isB_append (Dv.isB_append (Dv.isB_take HTN.out.1 _) (Dv.isB_take (Dv.isB_drop HBT.out.1 _) _)) (Dv.isB_drop HTN.out.1 _), by
          rw [spl_len tn (k * 64) _ (by rw [hpl2, HTN.out.2]; omega)]; exact HTN.out.2⟩
        have HIP := Lib.hid (Dv.isB_drop HBT.out.1 (k * 64))
        have HDL := Lib.hid hdl2
        have HPL2 : Hid (64 ≤ (PB.drop (k * 64)).length) := Lib.hid (by rw [List.length_drop, HPN.out]; omega)
        clear hdl2 hpl2
        go_wp2_with fail
        go_region_law (first
          | (refine step_copy_long rfl (.tmp 108) (.tmp 112) (by rfl) gt (k * 64) 64 (cap - k * 64) (by simp [go_sem]) ((tn.drop (k * 64)).take 64) (PB.drop (k * 64)) (by rw [← HV.out]; simp [go_sem]) (by exact HRS.out) HIP.out HPL2.out (by rw [HDL.out]; exact Nat.le_refl _) ?_
             intro w3 hr3 ho3))
        all_goals
          have h9 := HNX.out _ hr3 ho3
          have HR9 := Lib.hid h9.1
          have HG9 := Lib.hid (grown_put HG.out h9.2 (by omega))
          have HB9 := Lib.hid (HB.out.not h9.2 (by omega))
          have HD9 := Lib.hid (HD.out.not h9.2 (by omega))
          have HL9 : Hid (gt < w3.heap.size) := Lib.hid (Nat.lt_of_lt_of_le HGTL.out h9.2.size)
          clear h9 hr3 ho3
          go_wp2
          go_roundw
          case rel => exact ⟨k + 1, _, by omega, by go_num, HTN2, HR9, HG9, HB9, HD9, HL9⟩
          case measure => simp [intOf]; omega
      · generalize mk / 2 ^ k % 2 = z at hem hb
        have e3 : ((z : Int) == 1) = false := by simp; omega
        clear hb
        go_wp2
        go_roundw
        case rel => exact ⟨k + 1, tn, by omega, by go_num, HTN, HRG, HG, HB, HD, HGTL⟩
        case measure => simp [intOf]; omega
    · have hq0 : decide (k < Z) = false := decide_eq_false hlt
      obtain rfl : k = Z := by omega
      have HCV : Hid (∀ W, wr.grownBy W none → (convert 48 9 (.slice (some ⟨gt, 0, none⟩) N cap)).run Tryd.prog W = .ok (.string (strOfNums tn)) W) := Lib.hid (fun W hW => conv_any gt 0 N cap tn W (HRG.out.turn (grown_turn hW) id) HTN.out.2)
      have HCH := Lib.hid (fun W (hT : T4 W) => choose_any PA tn W HBS.out.1 HTN.out.1 (Nat.le_trans HBS.out.2 (by decide)) (by rw [HTN.out.2]; omega) hT)
      have HGE := Lib.hid (fun W (hT : T4 W) => get_any tn W HTN.out.1 (by rw [HTN.out.2]; omega) hT)
      obtain ⟨⟨z1, zs, z3⟩, hz⟩ : ∃ r, chooseS PA tn = r := ⟨_, rfl⟩
      obtain ⟨⟨u, i⟩, hu⟩ : ∃ r, getS tn = r := ⟨_, rfl⟩
      rw [hz] at HCH
      rw [hu] at HGE
      unfold ChoseX at HCH
      unfold GotX at HGE
      dsimp only at HCH HGE
      rw [HTA.out] at HCH
      have HEQ : Hid (tn = PB ∨ (tn ≠ PB ∧ (strOfNums tn).toList ≠ TB.toList)) := Lib.hid (by
        by_cases he : tn = PB
        · exact .inl he
        · refine .inr ⟨he, fun h => ?_⟩
          have h1 : strOfNums tn ≠ TB := fun e => he (Dv.str_inj HTN.out.1 HBT.out.1 (by rw [e, HTB.out]))
          have h2 := Fr.toList_ne h1
          rw [h] at h2
          simp at h2)
      have HOKZ := Lib.hid (choose_ok (b := tn) HGA.out)
      obtain ⟨TN, hTN⟩ : ∃ S, strOfNums tn = S := ⟨_, rfl⟩
      rw [hTN] at HCV HCH HGE HEQ
      have HTNN := Lib.hid hTN
      have hcv0 := HCV.out wr (grown_refl _)
      clear hTN hlt
      go_wp2_with fail
      refine (HCH.out _ (HT.out.grown HG.out)).mono ?_
      rintro e w6 ⟨hg, p6, m6, q6, rfl, hsg6, -⟩
      have hg6 := grown_then hg (grown_alloc w6 (.cells #[.int .u64 zs.gen, .int .i64 zs.size, .int .i64 zs.blocks, .int .u32 zs.root, .slice p6 m6 q6] 29))
      have G6 := Lib.hid (grown_then HG.out hg6)
      have HB6 := Lib.hid (HB.out.old hg6)
      have HD6 := Lib.hid (HD.out.old hg6)
      have HX6 := Lib.hid (SB.new w6 zs p6 m6 q6)
      have HS6 := Lib.hid (hsg6.grown (grown_alloc w6 (.cells #[.int .u64 zs.gen, .int .i64 zs.size, .int .i64 zs.blocks, .int .u32 zs.root, .slice p6 m6 q6] 29)))
      have hcv6 := HCV.out _ hg6
      have HCV6 := Lib.hid (fun W (k : (w6.alloc (.cells #[.int .u64 zs.gen, .int .i64 zs.size, .int .i64 zs.blocks, .int .u32 zs.root, .slice p6 m6 q6] 29)).grownBy W none) => HCV.out W (grown_then hg6 k))
      clear hg hg6 hsg6 HCH hcv0 HCV HG HB HD
      dsimp only
      go_upto_region 19 with (fail)
      obtain ⟨W6, hW6⟩ : ∃ X, w6.alloc (.cells #[.int .u64 zs.gen, .int .i64 zs.size, .int .i64 zs.blocks, .int .u32 zs.root, .slice p6 m6 q6] 29) = X := ⟨_, rfl⟩
      rw [hW6] at G6 HB6 HD6 HX6 HS6 hcv6 HCV6 ⊢
      clear hW6
      go_wp2_with fail
      refine (HGE.out _ (HT.out.grown G6.out)).mono ?_
      rintro e w7 ⟨hg, p7, m7, q7, rfl, -, -⟩
      have hg7 := grown_then hg (grown_alloc w7 (.cells #[.int .u64 u.gen, .int .i64 u.size, .int .i64 u.blocks, .int .u32 u.root, .slice p7 m7 q7] 29))
      have G7 := Lib.hid (grown_then G6.out hg7)
      have HB7 := Lib.hid (HB6.out.old hg7)
      have HD7 := Lib.hid (HD6.out.old hg7)
      have HX7 := Lib.hid (HX6.out.old hg7)
      have HS7 := Lib.hid (HS6.out.grown hg7)
      have hcv7 := HCV6.out _ hg7
      clear hg hg7 HGE hcv6 HCV6 G6 HB6 HD6 HX6 HS6
      dsimp only
      go_upto_region 20 with (fail)
      obtain ⟨W7, hW7⟩ : ∃ X, w7.alloc (.cells #[.int .u64 u.gen, .int .i64 u.size, .int .i64 u.blocks, .int .u32 u.root, .slice p7 m7 q7] 29) = X := ⟨_, rfl⟩
      rw [hW7] at G7 HB7 HD7 HX7 HS7 hcv7 ⊢
      clear hW7
      have GF := G7
      obtain ⟨a0, a1, a2, a3, a4⟩ := HB7.out.cells
      obtain ⟨b0, b1, b2, b3, b4⟩ := HD7.out.cells
      obtain ⟨x0, x1, x2, x3, x4⟩ := HX7.out.cells
      rcases HEQ.out with he | ⟨he, hne⟩
      · have hch : (z1, zs, z3) = (1, t, 0) := by rw [← hz, he]; exact choose_second HGB.out (.inr (by rw [HGA.out]; exact HGN.out))
        obtain ⟨rfl, h2⟩ := Prod.mk.inj hch
        obtain ⟨rfl, rfl⟩ := Prod.mk.inj h2
        have htt : TN = TB := by rw [← HTNN.out, he, HTB.out]
        rw [htt] at hcv7
        have eb : (TB.toList == TB.toList) = true := beq_self_eq_true _
        have HSM := Lib.hid (same_yes zs p6 p m6 q6 m q W7 HS7.out (HHT.out.grown G7.out))
        clear hch h2 he hz hu htt HEQ
        go_wp2_with fail
        refine HSM.out.mono ?_
        rintro e w9 ⟨rfl, hg⟩
        have GE := Lib.hid (grown_then GF.out hg)
        clear hg HSM
        dsimp only
        go_wp2
        go_ret
        exact ⟨rfl, GE.out⟩
      · have eb : (TN.toList == TB.toList) = false := beq_eq_false_iff_ne.2 hne
        have eb2 : ¬ TN.toList = TB.toList := hne
        by_cases hi0 : i = 0
        · have hz3 : z3 = 0 := by have h := HOKZ.out; rw [hz] at h; exact h
          subst hi0 hz3
          clear hz hu HEQ he hne
          go_wp2
          go_ret
          exact ⟨rfl, GF.out⟩
        · have hch : (z1, zs, z3) = (0, s, 0) := by rw [← hz]; exact choose_first HGA.out (fun h => absurd (by rw [hu] at h; exact h) hi0)
          obtain ⟨rfl, h2⟩ := Prod.mk.inj hch
          obtain ⟨rfl, rfl⟩ := Prod.mk.inj h2
          have q1 : (i != 0) = true := bne_iff_ne.2 hi0
          have HSM := Lib.hid (same_yes zs p6 a m6 q6 n c W7 HS7.out (HHS.out.grown G7.out))
          clear hch h2 he hz hu HEQ hi0 hne
          go_wp2_with fail
          refine HSM.out.mono ?_
          rintro e w9 ⟨rfl, hg⟩
          have GE := Lib.hid (grown_then GF.out hg)
          clear hg HSM
          dsimp only
          go_wp2
          go_ret
          exact ⟨rfl, GE.out⟩
end Go.Proofs.YtfojkglindpjjaaDoor.Su
