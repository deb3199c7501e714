/-
  The document's Get: flags, put again, and compared with what was read.
-/
import Derived.Test.YtpcilohiokpmnaaNuRef4
import Derived.Test.YtpcilohiokpmnaaStr
namespace Go.Proofs.Ytpcilohiokpmnaa.Nu
open Go.RowKit
open Dv (Turn nowhere)
open Pk (Turn.then getR sizeN Fit PutF)
open Oct (readV ofB)
open In (At RR RRead RVarX rvar_any rnew_any rnumber1_any turn_up below_grown turn_more)

theorem ne_toList {a b : ByteArray} (h : a ≠ b) : ¬ a.toList = b.toList := by
  rw [Go.ByteArray.toList_eq, Go.ByteArray.toList_eq]
  intro e
  apply h
  obtain ⟨⟨a⟩⟩ := a
  obtain ⟨⟨b⟩⟩ := b
  have : a = b := e
  rw [this]
theorem ne_strs {a b : List Int} (ha : Bs.IsB a) (hb : Bs.IsB b) (h : ¬ a = b) : ((strOfNums a).toList == (strOfNums b).toList) = false :=
  beq_eq_false_iff_ne.2 (ne_toList fun e => h (Dv.str_inj ha hb e))

set_option maxRecDepth 100000 in
set_option maxHeartbeats 4000000 in
theorem rget_0 (a : Option Addr) (n c : Nat) (bs : List Int) (m : Nat) (r : List Int) (w : World) (hs : Bs.Seg w a n c bs) (hb : Oct.IsB bs) (hn : n ≤ 100000000) (hc : readC bs = some (m, 0 :: r)) (M : Nat) (L : List Bool) (z E : Int) (hR : resN bs (rgetN bs) = (L, z, E)) (hM : L.length = M) :
    Calls Try.prog 17 #[.slice a n c] w (GetX w M L z E) := by
  have HNew := Lib.hid (rnew_any a n c bs w hs (by omega))
  obtain ⟨hm, hbe⟩ := readC_some hb hc
  have hRB : Oct.IsB r := fun x hx => isB_right (hbe ▸ hb) x (List.mem_cons_of_mem _ hx)
  have HRB : Hid (Oct.IsB (0 :: r)) := Lib.hid (isB_right (hbe ▸ hb))
  have HVar := Lib.hid (rvar_count hb hc)
  have hlen := hs.len
  have hbl := congrArg List.length hbe
  rw [List.length_append, List.length_cons, hlen] at hbl
  have hvp := Oct.varB_pos 9 (m : Int)
  have HSeg := Lib.hid hs
  have HBs := Lib.hid hb
  have hsr : True := trivial
  obtain ⟨l, hl⟩ : ∃ l, List.replicate m false = l := ⟨_, rfl⟩
  have hlm : l.length = m := by rw [← hl, List.length_replicate]
  have HLm : Hid (l.length = m) := Lib.hid hlm
  have HPN : Hid (putN l = (0, encN l)) := Lib.hid (by unfold putN; rw [if_neg (by omega)])
  obtain ⟨pl, hpl⟩ : ∃ p, (encN l).length = p := ⟨_, rfl⟩
  have HPl := Lib.hid hpl
  have HPp : Hid (0 < pl) := Lib.hid (by have := (enc_len (l := l) (by omega)).1; omega)
  have HPB := Lib.hid (enc_isB (l := l) (by omega))
  obtain ⟨t, ht⟩ : ∃ t, r.length = t := ⟨_, rfl⟩
  have HSl := Lib.hid ht
  have htn : t + 2 ≤ n := by omega
  obtain ⟨y, hy⟩ : ∃ y, n - t = y := ⟨_, rfl⟩
  have HX : Hid (rgetN bs = if encN l = bs.take y then some (l, r) else none) := Lib.hid (by
    unfold rgetN
    rw [show rdN bs = some (0, l, r) from by unfold rdN; rw [hc]; simp only; rw [← hl]; rfl]
    simp only
    rw [hlen, ht, hy])
  have HY : Hid (2 ≤ y ∧ y ≤ n) := Lib.hid (by omega)
  have hyw : IntKind.i64.wrap ((n : Int) - (t : Int)) = (y : Int) := by rw [IntKind.wrap_i64]; omega
  have HYe : Hid ((n : Int) - (t : Int) = (y : Int)) := Lib.hid (by omega)
  have HN : Hid (bs.length = n) := Lib.hid hlen
  have hy0 : (0 : Int) ≤ (y : Int) := by omega
  have hyc : (y : Int) ≤ (c : Int) := by have := hs.le; omega
  have hmk := make_fullT m (by omega)
  have hm4 : ¬ (4096 : Int) < (m : Int) := by omega
  have hma := Nat.le_trans hm (by decide : 4096 ≤ 1000000)
  have hwm : IntKind.i64.wrap (m : Int) = (m : Int) := by rw [IntKind.wrap_i64]; omega
  clear hs hb hc hbe hlen hbl hvp hpl ht hy hlm htn hRB hsr
  go_enter Try.func17, Try.ntmps17
  go_wp2_with fail
  refine HNew.out.mono ?_
  rintro e w1 ⟨b, g, rfl, hb0, hrd, hgr, hg1⟩
  have HV1 := Lib.hid (HVar.out b g w1 hrd)
  have HB1 : Hid (Below w.heap.size w w1) := Lib.hid (below_grown hgr (Nat.le_refl _))
  have HB0 := Lib.hid hb0
  have HG1 := Lib.hid hg1
  clear hb0 hrd hgr hg1
  dsimp only
  go_wp2_with fail
  refine HV1.out.mono ?_
  rintro e w2 ⟨rfl, ht2, hr2⟩
  have HNum : Hid (Calls Try.prog 39 #[.pointer (some ⟨b, 0, none⟩), .int .i64 1] w2 (RRead b g w2 0 0 r)) := Lib.hid (rnumber1_any b g (0 :: r) w2 hr2 HRB.out)
  have HB2 : Hid (Below w.heap.size w w2) := Lib.hid (turn_up HB1.out ht2 HB0.out)
  have HG2 : Hid (g < w2.heap.size) := Lib.hid (Nat.lt_of_lt_of_le HG1.out ht2.size)
  clear ht2 hr2 HV1
  dsimp only
  go_wp2_with fail
  refine HNum.out.mono ?_
  rintro e w3 ⟨rfl, ht3, hr3⟩
  have HB3 : Hid (Below w.heap.size w w3) := Lib.hid (turn_up HB2.out ht3 HB0.out)
  have HG3 : Hid (g < w3.heap.size) := Lib.hid (Nat.lt_of_lt_of_le HG2.out ht3.size)
  have HR3 := Lib.hid hr3
  have HBL : Hid (b < w3.heap.size) := Lib.hid hr3.lt
  clear ht3 hr3 HNum
  dsimp only
  have HB4 : Hid (Below w.heap.size w (w3.alloc (.cells (roomF m) 4))) := Lib.hid (HB3.out.alloc HB3.out.size _)
  have HR4 : Hid (RR (w3.alloc (.cells (roomF m) 4)) b g r) := Lib.hid (HR3.out.turn (Turn.alloc w3 _ nowhere) id id)
  have HO4 := Lib.hid (made_flags w3 l m (by omega) HLm.out)
  obtain ⟨G, hG⟩ : ∃ G, w3.heap.size = G := ⟨_, rfl⟩
  have hwG : w.heap.size ≤ G := by rw [← hG]; exact HB3.out.size
  have HL0 : Hid (l = fillF l 0) := Lib.hid (by rw [fillF_zero, HLm.out, hl])
  have HSg4 : Hid (Bl.Seg (w3.alloc (.cells (roomF m) 4)) (some ⟨G, 0, none⟩) m m l) := Lib.hid (by
    have h := HO4.out
    rw [← HL0.out, hG] at h
    exact Bl.Seg.own h)
  have HWG := Lib.hid hwG
  clear hl hwG
  go_wp2
  try rw [hG]
  obtain ⟨wr, hwr⟩ : ∃ wr, w3.alloc (.cells (roomF m) 4) = wr := ⟨_, rfl⟩
  rw [hwr] at HB4 HR4 HSg4 ⊢
  clear hwr hG HO4
  have HBr := HB4
  have HRd := HR4
  have HSg := HSg4
  clear HB4 HR4 HSg4
  refine wp_loop_rounds 1 ?_
  rw [rounds_succ]
  by_cases hm0 : m = 0
  · have hlt : decide ((0 : Int) < (m : Int)) = false := decide_eq_false (by omega)
    have hlt2 : ¬ (0 : Int) < (m : Int) := by omega
    clear hm0
    have HLf := Lib.hid (rleft_any b g r wr HRd.out)
    have HPut := Lib.hid (rput_form HPN.out HPl.out (some ⟨G, 0, none⟩) m m wr HSg.out)
    rw [HSl.out] at HLf
    go_wp2_with (first
      | (go_at_call 43; refine HLf.out.mono ?_; rintro e w' ⟨rfl, rfl⟩)
      | fail)
    refine HPut.out.mono ?_
    rintro e w6 ⟨a6, k6, rfl, hs6, hT6⟩
    have HB6 : Hid (Below w.heap.size w w6) := Lib.hid (below_turn (Turn.then (turn_below HBr.out) hT6))
    have HS6 : Hid (Bl.Seg w6 (some ⟨G, 0, none⟩) m m l) := Lib.hid (bseg_stay HSg.out hT6)
    have hc1 : ∀ q, (convert 23 9 (.slice a6 pl k6)).run Try.prog (w6.drewN q) = .ok (.string (strOfNums (encN l))) (w6.drewN q) := fun q => In.conv_seg (hs6.grown (Turn.drewN w6 q nowhere).grown) HPp.out
    have hc2 : ∀ q, (convert 23 9 (.slice a y c)).run Try.prog (w6.drewN q) = .ok (.string (strOfNums (bs.take y))) (w6.drewN q) := fun q => In.conv_seg (((HSeg.out.grown (Bs.grown_of HB6.out)).take HY.out.2).grown (Turn.drewN w6 q nowhere).grown) (by have := HY.out.1; omega)
    clear hs6 hT6 HPut HLf
    dsimp only
    have hX := HX.out
    by_cases hsame : encN l = bs.take y
    · rw [if_pos hsame] at hX
      rw [hX] at hR
      simp only [resN, Prod.mk.injEq] at hR
      obtain ⟨rfl, rfl, rfl⟩ := hR
      obtain rfl : m = M := by rw [← hM, HLm.out]
      have HF : Hid (∀ q, GetX w m l (((bs.length : Nat) : Int) - ((r.length : Nat) : Int)) 0 (.returned (.tuple #[.slice (some ⟨G, 0, none⟩) m m, .int .i64 (y : Int), .int .i64 0])) (w6.drewN q)) := Lib.hid (fun q => ⟨_, m, by rw [HN.out, HSl.out, HYe.out], bseg_stay HS6.out (Turn.drewN w6 q nowhere), turn_below (Bs.below_drewN q HB6.out)⟩)
      rw [hsame] at hc1
      obtain ⟨Z, hZ⟩ : ∃ Z, strOfNums (bs.take y) = Z := ⟨_, rfl⟩
      rw [hZ] at hc1 hc2
      clear hsame hX hM hZ
      go_wp2
      go_quiet (fail)
      go_wp2
      go_ret3
      exact HF.out _
    · rw [if_neg hsame] at hX
      rw [hX] at hR
      simp only [resN, Prod.mk.injEq] at hR
      obtain ⟨rfl, rfl, rfl⟩ := hR
      obtain rfl : M = 0 := by rw [← hM]; rfl
      have HF : Hid (∀ q, GetX w 0 [] 0 4 (.returned (.tuple #[.slice none 0 0, .int .i64 0, .int .i64 4])) (w6.drewN q)) := Lib.hid (fun q => getx_bad (Bs.below_drewN q HB6.out))
      have hne := ne_strs HPB.out (In.isB_take HBs.out y) hsame
      obtain ⟨Z1, hZ1⟩ : ∃ Z, strOfNums (encN l) = Z := ⟨_, rfl⟩
      obtain ⟨Z2, hZ2⟩ : ∃ Z, strOfNums (bs.take y) = Z := ⟨_, rfl⟩
      rw [hZ1] at hc1 hne
      rw [hZ2] at hc2 hne
      clear hsame hX hM hZ1 hZ2
      go_wp2
      go_quiet (fail)
      go_wp2
      go_ret3
      exact HF.out _
  · have hlt : decide ((0 : Int) < (m : Int)) = true := decide_eq_true (by omega)
    have hlt2 : (0 : Int) < (m : Int) := by omega
    clear hm0
    have HLf := Lib.hid (rleft_any b g r wr HRd.out)
    have HPut := Lib.hid (rput_form HPN.out HPl.out (some ⟨G, 0, none⟩) m m wr HSg.out)
    rw [HSl.out] at HLf
    go_wp2_with (first
      | (go_at_call 43; refine HLf.out.mono ?_; rintro e w' ⟨rfl, rfl⟩)
      | fail)
    refine HPut.out.mono ?_
    rintro e w6 ⟨a6, k6, rfl, hs6, hT6⟩
    have HB6 : Hid (Below w.heap.size w w6) := Lib.hid (below_turn (Turn.then (turn_below HBr.out) hT6))
    have HS6 : Hid (Bl.Seg w6 (some ⟨G, 0, none⟩) m m l) := Lib.hid (bseg_stay HSg.out hT6)
    have hc1 : ∀ q, (convert 23 9 (.slice a6 pl k6)).run Try.prog (w6.drewN q) = .ok (.string (strOfNums (encN l))) (w6.drewN q) := fun q => In.conv_seg (hs6.grown (Turn.drewN w6 q nowhere).grown) HPp.out
    have hc2 : ∀ q, (convert 23 9 (.slice a y c)).run Try.prog (w6.drewN q) = .ok (.string (strOfNums (bs.take y))) (w6.drewN q) := fun q => In.conv_seg (((HSeg.out.grown (Bs.grown_of HB6.out)).take HY.out.2).grown (Turn.drewN w6 q nowhere).grown) (by have := HY.out.1; omega)
    clear hs6 hT6 HPut HLf
    dsimp only
    have hX := HX.out
    by_cases hsame : encN l = bs.take y
    · rw [if_pos hsame] at hX
      rw [hX] at hR
      simp only [resN, Prod.mk.injEq] at hR
      obtain ⟨rfl, rfl, rfl⟩ := hR
      obtain rfl : m = M := by rw [← hM, HLm.out]
      have HF : Hid (∀ q, GetX w m l (((bs.length : Nat) : Int) - ((r.length : Nat) : Int)) 0 (.returned (.tuple #[.slice (some ⟨G, 0, none⟩) m m, .int .i64 (y : Int), .int .i64 0])) (w6.drewN q)) := Lib.hid (fun q => ⟨_, m, by rw [HN.out, HSl.out, HYe.out], bseg_stay HS6.out (Turn.drewN w6 q nowhere), turn_below (Bs.below_drewN q HB6.out)⟩)
      rw [hsame] at hc1
      obtain ⟨Z, hZ⟩ : ∃ Z, strOfNums (bs.take y) = Z := ⟨_, rfl⟩
      rw [hZ] at hc1 hc2
      clear hsame hX hM hZ
      go_wp2
      go_quiet (fail)
      go_wp2
      go_ret3
      exact HF.out _
    · rw [if_neg hsame] at hX
      rw [hX] at hR
      simp only [resN, Prod.mk.injEq] at hR
      obtain ⟨rfl, rfl, rfl⟩ := hR
      obtain rfl : M = 0 := by rw [← hM]; rfl
      have HF : Hid (∀ q, GetX w 0 [] 0 4 (.returned (.tuple #[.slice none 0 0, .int .i64 0, .int .i64 4])) (w6.drewN q)) := Lib.hid (fun q => getx_bad (Bs.below_drewN q HB6.out))
      have hne := ne_strs HPB.out (In.isB_take HBs.out y) hsame
      obtain ⟨Z1, hZ1⟩ : ∃ Z, strOfNums (encN l) = Z := ⟨_, rfl⟩
      obtain ⟨Z2, hZ2⟩ : ∃ Z, strOfNums (bs.take y) = Z := ⟨_, rfl⟩
      rw [hZ1] at hc1 hne
      rw [hZ2] at hc2 hne
      clear hsame hX hM hZ1 hZ2
      go_wp2
      go_quiet (fail)
      go_wp2
      go_ret3
      exact HF.out _

set_option maxRecDepth 100000 in
set_option maxHeartbeats 4000000 in
theorem rget_1 (a : Option Addr) (n c : Nat) (bs : List Int) (m : Nat) (r : List Int) (w : World) (hs : Bs.Seg w a n c bs) (hb : Oct.IsB bs) (hn : n ≤ 100000000) (hc : readC bs = some (m, 1 :: r)) (M : Nat) (L : List Bool) (z E : Int) (hR : resN bs (rgetN bs) = (L, z, E)) (hM : L.length = M) :
    Calls Try.prog 17 #[.slice a n c] w (GetX w M L z E) := by
  have HNew := Lib.hid (rnew_any a n c bs w hs (by omega))
  obtain ⟨hm, hbe⟩ := readC_some hb hc
  have hRB : Oct.IsB r := fun x hx => isB_right (hbe ▸ hb) x (List.mem_cons_of_mem _ hx)
  have HRB : Hid (Oct.IsB (1 :: r)) := Lib.hid (isB_right (hbe ▸ hb))
  have HVar := Lib.hid (rvar_count hb hc)
  have hlen := hs.len
  have hbl := congrArg List.length hbe
  rw [List.length_append, List.length_cons, hlen] at hbl
  have hvp := Oct.varB_pos 9 (m : Int)
  have HSeg := Lib.hid hs
  have HBs := Lib.hid hb
  have hsr : True := trivial
  obtain ⟨l, hl⟩ : ∃ l, List.replicate m true = l := ⟨_, rfl⟩
  have hlm : l.length = m := by rw [← hl, List.length_replicate]
  have HLm : Hid (l.length = m) := Lib.hid hlm
  have HPN : Hid (putN l = (0, encN l)) := Lib.hid (by unfold putN; rw [if_neg (by omega)])
  obtain ⟨pl, hpl⟩ : ∃ p, (encN l).length = p := ⟨_, rfl⟩
  have HPl := Lib.hid hpl
  have HPp : Hid (0 < pl) := Lib.hid (by have := (enc_len (l := l) (by omega)).1; omega)
  have HPB := Lib.hid (enc_isB (l := l) (by omega))
  obtain ⟨t, ht⟩ : ∃ t, r.length = t := ⟨_, rfl⟩
  have HSl := Lib.hid ht
  have htn : t + 2 ≤ n := by omega
  obtain ⟨y, hy⟩ : ∃ y, n - t = y := ⟨_, rfl⟩
  have HX : Hid (rgetN bs = if encN l = bs.take y then some (l, r) else none) := Lib.hid (by
    unfold rgetN
    rw [show rdN bs = some (1, l, r) from by unfold rdN; rw [hc]; simp only; rw [← hl]; rfl]
    simp only
    rw [hlen, ht, hy])
  have HY : Hid (2 ≤ y ∧ y ≤ n) := Lib.hid (by omega)
  have hyw : IntKind.i64.wrap ((n : Int) - (t : Int)) = (y : Int) := by rw [IntKind.wrap_i64]; omega
  have HYe : Hid ((n : Int) - (t : Int) = (y : Int)) := Lib.hid (by omega)
  have HN : Hid (bs.length = n) := Lib.hid hlen
  have hy0 : (0 : Int) ≤ (y : Int) := by omega
  have hyc : (y : Int) ≤ (c : Int) := by have := hs.le; omega
  have hmk := make_fullT m (by omega)
  have hm4 : ¬ (4096 : Int) < (m : Int) := by omega
  have hma := Nat.le_trans hm (by decide : 4096 ≤ 1000000)
  have hwm : IntKind.i64.wrap (m : Int) = (m : Int) := by rw [IntKind.wrap_i64]; omega
  clear hs hb hc hbe hlen hbl hvp hpl ht hy hlm htn hRB hsr
  go_enter Try.func17, Try.ntmps17
  go_wp2_with fail
  refine HNew.out.mono ?_
  rintro e w1 ⟨b, g, rfl, hb0, hrd, hgr, hg1⟩
  have HV1 := Lib.hid (HVar.out b g w1 hrd)
  have HB1 : Hid (Below w.heap.size w w1) := Lib.hid (below_grown hgr (Nat.le_refl _))
  have HB0 := Lib.hid hb0
  have HG1 := Lib.hid hg1
  clear hb0 hrd hgr hg1
  dsimp only
  go_wp2_with fail
  refine HV1.out.mono ?_
  rintro e w2 ⟨rfl, ht2, hr2⟩
  have HNum : Hid (Calls Try.prog 39 #[.pointer (some ⟨b, 0, none⟩), .int .i64 1] w2 (RRead b g w2 1 0 r)) := Lib.hid (rnumber1_any b g (1 :: r) w2 hr2 HRB.out)
  have HB2 : Hid (Below w.heap.size w w2) := Lib.hid (turn_up HB1.out ht2 HB0.out)
  have HG2 : Hid (g < w2.heap.size) := Lib.hid (Nat.lt_of_lt_of_le HG1.out ht2.size)
  clear ht2 hr2 HV1
  dsimp only
  go_wp2_with fail
  refine HNum.out.mono ?_
  rintro e w3 ⟨rfl, ht3, hr3⟩
  have HB3 : Hid (Below w.heap.size w w3) := Lib.hid (turn_up HB2.out ht3 HB0.out)
  have HG3 : Hid (g < w3.heap.size) := Lib.hid (Nat.lt_of_lt_of_le HG2.out ht3.size)
  have HR3 := Lib.hid hr3
  have HBL : Hid (b < w3.heap.size) := Lib.hid hr3.lt
  clear ht3 hr3 HNum
  dsimp only
  have HB4 : Hid (Below w.heap.size w (w3.alloc (.cells (roomF m) 4))) := Lib.hid (HB3.out.alloc HB3.out.size _)
  have HR4 : Hid (RR (w3.alloc (.cells (roomF m) 4)) b g r) := Lib.hid (HR3.out.turn (Turn.alloc w3 _ nowhere) id id)
  have HO4 := Lib.hid (made_flags w3 l m (by omega) HLm.out)
  obtain ⟨G, hG⟩ : ∃ G, w3.heap.size = G := ⟨_, rfl⟩
  have hwG : w.heap.size ≤ G := by rw [← hG]; exact HB3.out.size
  have HLt : Hid (∀ k, k < m → l.getD k false = true) := Lib.hid (fun k hk => by rw [← hl]; simp [List.getD, hk])
  clear hl hwG hG
  have HWG : Hid (w.heap.size ≤ w3.heap.size) := Lib.hid HB3.out.size
  go_wp2
  go_loopw [16] (fun si wr => ∃ k : Nat, k ≤ m ∧ si = .int .i64 k ∧ Hid (wr.ownsRow w3.heap.size 4 1 (.slice (some ⟨w3.heap.size, 0, none⟩) m m) m ((fillF l k).map Value.bool)) ∧ Hid (Below w3.heap.size w3 wr)) (fun si _ => m - (intOf si).toNat)
  case atStart => exact ⟨0, Nat.zero_le _, rfl, HO4, Lib.hid ((Below.refl _ w3).alloc (Nat.le_refl _) _)⟩
  case round =>
    obtain ⟨k, hk, rfl, HO, HB⟩ := hrel
    by_cases hlt : k < m
    · have hcell := HO.out.cellAt k (by omega)
      have hkl : k < (fillF l k).length := by rw [fillF_len l k (by rw [HLm.out]; exact hk), HLm.out]; exact hlt
      rw [List.getElem?_map, List.getElem?_eq_getElem hkl] at hcell
      simp only [Option.map_some] at hcell
      have hfree := HO.out.frozenAt k
      have HO2 : Hid ((wr.setCell ⟨w3.heap.size, k, none⟩ (.bool true)).ownsRow w3.heap.size 4 1 (.slice (some ⟨w3.heap.size, 0, none⟩) m m) m ((fillF l (k + 1)).map Value.bool)) := Lib.hid (by
        rw [← fillF_set l k (by rw [HLm.out]; exact hlt), show l.getD k false = true from HLt.out k hlt, List.map_set]
        exact (HO.out.stored k (.bool true)).1)
      have HB2' : Hid (Below w3.heap.size w3 (wr.setCell ⟨w3.heap.size, k, none⟩ (.bool true))) := Lib.hid (HB.out.setCell (p := ⟨w3.heap.size, k, none⟩) (Nat.le_refl _) _)
      generalize (fillF l k)[k]'_ = q at hcell
      have hlt2 : (k : Int) < (m : Int) := by omega
      clear hkl
      go_wp2
      go_roundw
      case rel => exact ⟨k + 1, by omega, by go_num, HO2, HB2'⟩
      case measure => simp [intOf]; omega
    · obtain rfl : k = m := by omega
      have HBr : Hid (Below w.heap.size w wr) := Lib.hid (HB3.out.trans (In.below_mono HB.out HWG.out))
      have HRd : Hid (RR wr b g r) := Lib.hid (HR3.out.turn (turn_below HB.out) id id)
      obtain ⟨G, hG⟩ : ∃ G, w3.heap.size = G := ⟨_, rfl⟩
      have HSg : Hid (Bl.Seg wr (some ⟨G, 0, none⟩) k k l) := Lib.hid (by
        have h := HO.out
        have e : fillF l k = l := by have := fillF_all l; rwa [HLm.out] at this
        rw [e, hG] at h
        exact Bl.Seg.own h)
      rw [hG]
      clear hG HO
      have HLf := Lib.hid (rleft_any b g r wr HRd.out)
      have HPut := Lib.hid (rput_form HPN.out HPl.out (some ⟨G, 0, none⟩) k k wr HSg.out)
      rw [HSl.out] at HLf
      go_wp2_with (first
        | (go_at_call 43; refine HLf.out.mono ?_; rintro e w' ⟨rfl, rfl⟩)
        | fail)
      refine HPut.out.mono ?_
      rintro e w6 ⟨a6, k6, rfl, hs6, hT6⟩
      have HB6 : Hid (Below w.heap.size w w6) := Lib.hid (below_turn (Turn.then (turn_below HBr.out) hT6))
      have HS6 : Hid (Bl.Seg w6 (some ⟨G, 0, none⟩) k k l) := Lib.hid (bseg_stay HSg.out hT6)
      have hc1 : ∀ q, (convert 23 9 (.slice a6 pl k6)).run Try.prog (w6.drewN q) = .ok (.string (strOfNums (encN l))) (w6.drewN q) := fun q => In.conv_seg (hs6.grown (Turn.drewN w6 q nowhere).grown) HPp.out
      have hc2 : ∀ q, (convert 23 9 (.slice a y c)).run Try.prog (w6.drewN q) = .ok (.string (strOfNums (bs.take y))) (w6.drewN q) := fun q => In.conv_seg (((HSeg.out.grown (Bs.grown_of HB6.out)).take HY.out.2).grown (Turn.drewN w6 q nowhere).grown) (by have := HY.out.1; omega)
      clear hs6 hT6 HPut HLf
      dsimp only
      have hX := HX.out
      by_cases hsame : encN l = bs.take y
      · rw [if_pos hsame] at hX
        rw [hX] at hR
        simp only [resN, Prod.mk.injEq] at hR
        obtain ⟨rfl, rfl, rfl⟩ := hR
        obtain rfl : k = M := by rw [← hM, HLm.out]
        have HF : Hid (∀ q, GetX w k l (((bs.length : Nat) : Int) - ((r.length : Nat) : Int)) 0 (.returned (.tuple #[.slice (some ⟨G, 0, none⟩) k k, .int .i64 (y : Int), .int .i64 0])) (w6.drewN q)) := Lib.hid (fun q => ⟨_, k, by rw [HN.out, HSl.out, HYe.out], bseg_stay HS6.out (Turn.drewN w6 q nowhere), turn_below (Bs.below_drewN q HB6.out)⟩)
        rw [hsame] at hc1
        obtain ⟨Z, hZ⟩ : ∃ Z, strOfNums (bs.take y) = Z := ⟨_, rfl⟩
        rw [hZ] at hc1 hc2
        clear hsame hX hM hZ
        go_wp2
        go_quiet (fail)
        go_wp2
        go_ret3
        exact HF.out _
      · rw [if_neg hsame] at hX
        rw [hX] at hR
        simp only [resN, Prod.mk.injEq] at hR
        obtain ⟨rfl, rfl, rfl⟩ := hR
        obtain rfl : M = 0 := by rw [← hM]; rfl
        have HF : Hid (∀ q, GetX w 0 [] 0 4 (.returned (.tuple #[.slice none 0 0, .int .i64 0, .int .i64 4])) (w6.drewN q)) := Lib.hid (fun q => getx_bad (Bs.below_drewN q HB6.out))
        have hne := ne_strs HPB.out (In.isB_take HBs.out y) hsame
        obtain ⟨Z1, hZ1⟩ : ∃ Z, strOfNums (encN l) = Z := ⟨_, rfl⟩
        obtain ⟨Z2, hZ2⟩ : ∃ Z, strOfNums (bs.take y) = Z := ⟨_, rfl⟩
        rw [hZ1] at hc1 hne
        rw [hZ2] at hc2 hne
        clear hsame hX hM hZ1 hZ2
        go_wp2
        go_quiet (fail)
        go_wp2
        go_ret3
        exact HF.out _

end Go.Proofs.Ytpcilohiokpmnaa.Nu
