/-
  the document's own Get
-/
import Derived.Test.YtpcilohiokpmnaaNuRefA
import Derived.Test.YtpcilohiokpmnaaStr
namespace Go.Proofs.Ytpcilohiokpmnaa.Nu
open Go.RowKit
open Dv (Turn nowhere)
open Pk (Turn.then getR sizeN Fit PutF)
open Oct (readV ofB)
open In (At RR RRead RVarX rvar_any rnew_any rnumber1_any turn_up below_grown turn_more)

theorem ne_toList {a b : ByteArray} (h : a ≠ b) : ¬ a.toList = b.toList := by
  rw [Go.ByteArray.toList_eq, Go.ByteArray.toList_eq]
  intro e
  apply h
  obtain ⟨⟨a⟩⟩ := a
  obtain ⟨⟨b⟩⟩ := b
  have : a = b := e
  rw [this]
theorem ne_strs {a b : List Int} (ha : Bs.IsB a) (hb : Bs.IsB b) (h : ¬ a = b) : ((strOfNums a).toList == (strOfNums b).toList) = false :=
  beq_eq_false_iff_ne.2 (ne_toList fun e => h (Dv.str_inj ha hb e))

set_option maxRecDepth 100000 in
set_option maxHeartbeats 4000000 in
theorem rget_0 (a : Option Addr) (n c : Nat) (bs : List Int) (m : Nat) (r : List Int) (w : World) (hs : Bs.Seg w a n c bs) (hb : Oct.IsB bs) (hn : n ≤ 100000000) (hc : readC bs = some (m, 0 :: r)) (M : Nat) (L : List Bool) (z E : Int) (hR : resN bs (rgetN bs) = (L, z, E)) (hM : L.length = M) :
    Calls Try.prog 17 #[.slice a n c] w (GetX w M L z E) := by
  have HNew := Lib.hid (rnew_any a n c bs w hs (by omega))
  obtain ⟨hm, hbe⟩ := readC_some hb hc
  have hRB : Oct.IsB r := fun x hx => isB_right (hbe ▸ hb) x (List.mem_cons_of_mem _ hx)
  have HRB : Hid (Oct.IsB (0 :: r)) := Lib.hid (isB_right (hbe ▸ hb))
  have HVar := Lib.hid (rvar_count hb hc)
  have hlen := hs.len
  have hbl := congrArg List.length hbe
  rw [List.length_append, List.length_cons, hlen] at hbl
  have hvp := Oct.varB_pos 9 (m : Int)
  have HSeg := Lib.hid hs
  have HBs := Lib.hid hb
  have hsr : True := trivial
  obtain ⟨l, hl⟩ : ∃ l, List.replicate m false = l := ⟨_, rfl⟩
  have hlm : l.length = m := by rw [← hl, List.length_replicate]
  have HLm : Hid (l.length = m) := Lib.hid hlm
  have HPN : Hid (putN l = (0, encN l)) := Lib.hid (by unfold putN; rw [if_neg (by omega)])
  obtain ⟨pl, hpl⟩ : ∃ p, (encN l).length = p := ⟨_, rfl⟩
  have HPl := Lib.hid hpl
  have HPp : Hid (0 < pl) := Lib.hid (by have := (enc_len (l := l) (by omega)).1; omega)
  have HPB := Lib.hid (enc_isB (l := l) (by omega))
  obtain ⟨t, ht⟩ : ∃ t, r.length = t := ⟨_, rfl⟩
  have HSl := Lib.hid ht
  have htn : t + 2 ≤ n := by omega
  obtain ⟨y, hy⟩ : ∃ y, n - t = y := ⟨_, rfl⟩
  have HX : Hid (rgetN bs = if encN l = bs.take y then some (l, r) else none) := Lib.hid (by
    unfold rgetN
    rw [show rdN bs = some (0, l, r) from by unfold rdN; rw [hc]; simp only; rw [← hl]; rfl]
    simp only
    rw [hlen, ht, hy])
  have HY : Hid (2 ≤ y ∧ y ≤ n) := Lib.hid (by omega)
  have hyw : IntKind.i64.wrap ((n : Int) - (t : Int)) = (y : Int) := by rw [IntKind.wrap_i64]; omega
  have HYe : Hid ((n : Int) - (t : Int) = (y : Int)) := Lib.hid (by omega)
  have HN : Hid (bs.length = n) := Lib.hid hlen
  have hy0 : (0 : Int) ≤ (y : Int) := by omega
  have hyc : (y : Int) ≤ (c : Int) := by have := hs.le; omega
  have hmk := make_fullT m (by omega)
  have hm4 : ¬ (4096 : Int) < (m : Int) := by omega
  have hma := Nat.le_trans hm (by decide : 4096 ≤ 1000000)
  have hwm : IntKind.i64.wrap (m : Int) = (m : Int) := by rw [IntKind.wrap_i64]; omega
  clear hs hb hc hbe hlen hbl hvp hpl ht hy hlm htn hRB hsr
  go_enter Try.func17, Try.ntmps17
  go_wp2_with fail
  refine HNew.out.mono ?_
  rintro e w1 ⟨b, g, rfl, hb0, hrd, hgr, hg1⟩
  have HV1 := Lib.hid (HVar.out b g w1 hrd)
  have HB1 : Hid (Below w.heap.size w w1) := Lib.hid (below_grown hgr (Nat.le_refl _))
  have HB0 := Lib.hid hb0
  have HG1 := Lib.hid hg1
  clear hb0 hrd hgr hg1
  dsimp only
  go_wp2_with fail
  refine HV1.out.mono ?_
  rintro e w2 ⟨rfl, ht2, hr2⟩
  have HNum : Hid (Calls Try.prog 39 #[.pointer (some ⟨b, 0, none⟩), .int .i64 1] w2 (RRead b g w2 0 0 r)) := Lib.hid (rnumber1_any b g (0 :: r) w2 hr2 HRB.out)
  have HB2 : Hid (Below w.heap.size w w2) := Lib.hid (turn_up HB1.out ht2 HB0.out)
  have HG2 : Hid (g < w2.heap.size) := Lib.hid (Nat.lt_of_lt_of_le HG1.out ht2.size)
  clear ht2 hr2 HV1
  dsimp only
  go_wp2_with fail
  refine HNum.out.mono ?_
  rintro e w3 ⟨rfl, ht3, hr3⟩
  have HB3 : Hid (Below w.heap.size w w3) := Lib.hid (turn_up HB2.out ht3 HB0.out)
  have HG3 : Hid (g < w3.heap.size) := Lib.hid (Nat.lt_of_lt_of_le HG2.out ht3.size)
  have HR3 := Lib.hid hr3
  have HBL : Hid (b < w3.heap.size) := Lib.hid hr3.lt
  clear ht3 hr3 HNum
  dsimp only
  have HB4 : Hid (Below w.heap.size w (w3.alloc (.cells (roomF m) 4))) := Lib.hid (HB3.out.alloc HB3.out.size _)
  have HR4 : Hid (RR (w3.alloc (.cells (roomF m) 4)) b g r) := Lib.hid (HR3.out.turn (Turn.alloc w3 _ nowhere) id id)
  have HO4 := Lib.hid (made_flags w3 l m (by omega) HLm.out)
  obtain ⟨G, hG⟩ : ∃ G, w3.heap.size = G := ⟨_, rfl⟩
  have hwG : w.heap.size ≤ G := by rw [← hG]; exact HB3.out.size
  have HL0 : Hid (l = fillF l 0) := Lib.hid (by rw [fillF_zero, HLm.out, hl])
  have HSg4 : Hid (Bl.Seg (w3.alloc (.cells (roomF m) 4)) (some ⟨G, 0, none⟩) m m l) := Lib.hid (by
    have h := HO4.out
    rw [← HL0.out, hG] at h
    exact Bl.Seg.own h)
  have HWG := Lib.hid hwG
  clear hl hwG
  go_wp2
  try rw [hG]
  obtain ⟨wr, hwr⟩ : ∃ wr, w3.alloc (.cells (roomF m) 4) = wr := ⟨_, rfl⟩
  rw [hwr] at HB4 HR4 HSg4 ⊢
  clear hwr hG HO4
  have HBr := HB4
  have HRd := HR4
  have HSg := HSg4
  clear HB4 HR4 HSg4
  refine wp_loop_rounds 1 ?_
  rw [rounds_succ]
  by_cases hm0 : m = 0
  · have hlt : decide ((0 : Int) < (m : Int)) = false := decide_eq_false (by omega)
    have hlt2 : ¬ (0 : Int) < (m : Int) := by omega
    clear hm0
    have HLf := Lib.hid (rleft_any b g r wr HRd.out)
    have HPut := Lib.hid (rput_form HPN.out HPl.out (some ⟨G, 0, none⟩) m m wr HSg.out)
    rw [HSl.out] at HLf
    go_wp2_with (first
      | (go_at_call 43; refine HLf.out.mono ?_; rintro e w' ⟨rfl, rfl⟩)
      | fail)
    refine HPut.out.mono ?_
    rintro e w6 ⟨a6, k6, rfl, hs6, hT6⟩
    have HB6 : Hid (Below w.heap.size w w6) := Lib.hid (below_turn (Turn.then (turn_below HBr.out) hT6))
    have HS6 : Hid (Bl.Seg w6 (some ⟨G, 0, none⟩) m m l) := Lib.hid (bseg_stay HSg.out hT6)
    have hc1 : ∀ q, (convert 23 9 (.slice a6 pl k6)).run Try.prog (w6.drewN q) = .ok (.string (strOfNums (encN l))) (w6.drewN q) := fun q => In.conv_seg (hs6.grown (Turn.drewN w6 q nowhere).grown) HPp.out
    have hc2 : ∀ q, (convert 23 9 (.slice a y c)).run Try.prog (w6.drewN q) = .ok (.string (strOfNums (bs.take y))) (w6.drewN q) := fun q => In.conv_seg (((HSeg.out.grown (Bs.grown_of HB6.out)).take HY.out.2).grown (Turn.drewN w6 q nowhere).grown) (by have := HY.out.1; omega)
    clear hs6 hT6 HPut HLf
    dsimp only
    have hX := HX.out
    by_cases hsame : encN l = bs.take y
    · rw [if_pos hsame] at hX
      rw [hX] at hR
      simp only [resN, Prod.mk.injEq] at hR
      obtain ⟨rfl, rfl, rfl⟩ := hR
      obtain rfl : m = M := by rw [← hM, HLm.out]
      have HF : Hid (∀ q, GetX w m l (((bs.length : Nat) : Int) - ((r.length : Nat) : Int)) 0 (.returned (.tuple #[.slice (some ⟨G, 0, none⟩) m m, .int .i64 (y : Int), .int .i64 0])) (w6.drewN q)) := Lib.hid (fun q => ⟨_, m, by rw [HN.out, HSl.out, HYe.out], bseg_stay HS6.out (Turn.drewN w6 q nowhere), turn_below (Bs.below_drewN q HB6.out)⟩)
      rw [hsame] at hc1
      obtain ⟨Z, hZ⟩ : ∃ Z, strOfNums (bs.take y) = Z := ⟨_, rfl⟩
      rw [hZ] at hc1 hc2
      clear hsame hX hM hZ
      go_wp2
      go_quiet (fail)
      go_wp2
      go_ret3
      exact HF.out _
    · rw [if_neg hsame] at hX
      rw [hX] at hR
      simp only [resN, Prod.mk.injEq] at hR
      obtain ⟨rfl, rfl, rfl⟩ := hR
      obtain rfl : M = 0 := by rw [← hM]; rfl
      have HF : Hid (∀ q, GetX w 0 [] 0 4 (.returned (.tuple #[.slice none 0 0, .int .i64 0, .int .i64 4])) (w6.drewN q)) := Lib.hid (fun q => getx_bad (Bs.below_drewN q HB6.out))
      have hne := ne_strs HPB.out (In.isB_take HBs.out y) hsame
      obtain ⟨Z1, hZ1⟩ : ∃ Z, strOfNums (encN l) = Z := ⟨_, rfl⟩
      obtain ⟨Z2, hZ2⟩ : ∃ Z, strOfNums (bs.take y) = Z := ⟨_, rfl⟩
      rw [hZ1] at hc1 hne
      rw [hZ2] at hc2 hne
      clear hsame hX hM hZ1 hZ2
      go_wp2
      go_quiet (fail)
      go_wp2
      go_ret3
      exact HF.out _
  · have hlt : decide ((0 : Int) < (m : Int)) = true := decide_eq_true (by omega)
    have hlt2 : (0 : Int) < (m : Int) := by omega
    clear hm0
    have HLf := Lib.hid (rleft_any b g r wr HRd.out)
    have HPut := Lib.hid (rput_form HPN.out HPl.out (some ⟨G, 0, none⟩) m m wr HSg.out)
    rw [HSl.out] at HLf
    go_wp2_with (first
      | (go_at_call 43; refine HLf.out.mono ?_; rintro e w' ⟨rfl, rfl⟩)
      | fail)
    refine HPut.out.mono ?_
    rintro e w6 ⟨a6, k6, rfl, hs6, hT6⟩
    have HB6 : Hid (Below w.heap.size w w6) := Lib.hid (below_turn (Turn.then (turn_below HBr.out) hT6))
    have HS6 : Hid (Bl.Seg w6 (some ⟨G, 0, none⟩) m m l) := Lib.hid (bseg_stay HSg.out hT6)
    have hc1 : ∀ q, (convert 23 9 (.slice a6 pl k6)).run Try.prog (w6.drewN q) = .ok (.string (strOfNums (encN l))) (w6.drewN q) := fun q => In.conv_seg (hs6.grown (Turn.drewN w6 q nowhere).grown) HPp.out
    have hc2 : ∀ q, (convert 23 9 (.slice a y c)).run Try.prog (w6.drewN q) = .ok (.string (strOfNums (bs.take y))) (w6.drewN q) := fun q => In.conv_seg (((HSeg.out.grown (Bs.grown_of HB6.out)).take HY.out.2).grown (Turn.drewN w6 q nowhere).grown) (by have := HY.out.1; omega)
    clear hs6 hT6 HPut HLf
    dsimp only
    have hX := HX.out
    by_cases hsame : encN l = bs.take y
    · rw [if_pos hsame] at hX
      rw [hX] at hR
      simp only [resN, Prod.mk.injEq] at hR
      obtain ⟨rfl, rfl, rfl⟩ := hR
      obtain rfl : m = M := by rw [← hM, HLm.out]
      have HF : Hid (∀ q, GetX w m l (((bs.length : Nat) : Int) - ((r.length : Nat) : Int)) 0 (.returned (.tuple #[.slice (some ⟨G, 0, none⟩) m m, .int .i64 (y : Int), .int .i64 0])) (w6.drewN q)) := Lib.hid (fun q => ⟨_, m, by rw [HN.out, HSl.out, HYe.out], bseg_stay HS6.out (Turn.drewN w6 q nowhere), turn_below (Bs.below_drewN q HB6.out)⟩)
      rw [hsame] at hc1
      obtain ⟨Z, hZ⟩ : ∃ Z, strOfNums (bs.take y) = Z := ⟨_, rfl⟩
      rw [hZ] at hc1 hc2
      clear hsame hX hM hZ
      go_wp2
      go_quiet (fail)
      go_wp2
      go_ret3
      exact HF.out _
    · rw [if_neg hsame] at hX
      rw [hX] at hR
      simp only [resN, Prod.mk.injEq] at hR
      obtain ⟨rfl, rfl, rfl⟩ := hR
      obtain rfl : M = 0 := by rw [← hM]; rfl
      have HF : Hid (∀ q, GetX w 0 [] 0 4 (.returned (.tuple #[.slice none 0 0, .int .i64 0, .int .i64 4])) (w6.drewN q)) := Lib.hid (fun q => getx_bad (Bs.below_drewN q HB6.out))
      have hne := ne_strs HPB.out (In.isB_take HBs.out y) hsame
      obtain ⟨Z1, hZ1⟩ : ∃ Z, strOfNums (encN l) = Z := ⟨_, rfl⟩
      obtain ⟨Z2, hZ2⟩ : ∃ Z, strOfNums (bs.take y) = Z := ⟨_, rfl⟩
      rw [hZ1] at hc1 hne
      rw [hZ2] at hc2 hne
      clear hsame hX hM hZ1 hZ2
      go_wp2
      go_quiet (fail)
      go_wp2
      go_ret3
      exact HF.out _

set_option maxRecDepth 100000 in
set_option maxHeartbeats 4000000 in
theorem rget_1 (a : Option Addr) (n c : Nat) (bs : List Int) (m : Nat) (r : List Int) (w : World) (hs : Bs.Seg w a n c bs) (hb : Oct.IsB bs) (hn : n ≤ 100000000) (hc : readC bs = some (m, 1 :: r)) (M : Nat) (L : List Bool) (z E : Int) (hR : resN bs (rgetN bs) = (L, z, E)) (hM : L.length = M) :
    Calls Try.prog 17 #[.slice a n c] w (GetX w M L z E) := by
  have HNew := Lib.hid (rnew_any a n c bs w hs (by omega))
  obtain ⟨hm, hbe⟩ := readC_some hb hc
  have hRB : Oct.IsB r := fun x hx => isB_right (hbe ▸ hb) x (List.mem_cons_of_mem _ hx)
  have HRB : Hid (Oct.IsB (1 :: r)) := Lib.hid (isB_right (hbe ▸ hb))
  have HVar := Lib.hid (rvar_count hb hc)
  have hlen := hs.len
  have hbl := congrArg List.length hbe
  rw [List.length_append, List.length_cons, hlen] at hbl
  have hvp := Oct.varB_pos 9 (m : Int)
  have HSeg := Lib.hid hs
  have HBs := Lib.hid hb
  have hsr : True := trivial
  obtain ⟨l, hl⟩ : ∃ l, List.replicate m true = l := ⟨_, rfl⟩
  have hlm : l.length = m := by rw [← hl, List.length_replicate]
  have HLm : Hid (l.length = m) := Lib.hid hlm
  have HPN : Hid (putN l = (0, encN l)) := Lib.hid (by unfold putN; rw [if_neg (by omega)])
  obtain ⟨pl, hpl⟩ : ∃ p, (encN l).length = p := ⟨_, rfl⟩
  have HPl := Lib.hid hpl
  have HPp : Hid (0 < pl) := Lib.hid (by have := (enc_len (l := l) (by omega)).1; omega)
  have HPB := Lib.hid (enc_isB (l := l) (by omega))
  obtain ⟨t, ht⟩ : ∃ t, r.length = t := ⟨_, rfl⟩
  have HSl := Lib.hid ht
  have htn : t + 2 ≤ n := by omega
  obtain ⟨y, hy⟩ : ∃ y, n - t = y := ⟨_, rfl⟩
  have HX : Hid (rgetN bs = if encN l = bs.take y then some (l, r) else none) := Lib.hid (by
    unfold rgetN
    rw [show rdN bs = some (1, l, r) from by unfold rdN; rw [hc]; simp only; rw [← hl]; rfl]
    simp only
    rw [hlen, ht, hy])
  have HY : Hid (2 ≤ y ∧ y ≤ n) := Lib.hid (by omega)
  have hyw : IntKind.i64.wrap ((n : Int) - (t : Int)) = (y : Int) := by rw [IntKind.wrap_i64]; omega
  have HYe : Hid ((n : Int) - (t : Int) = (y : Int)) := Lib.hid (by omega)
  have HN : Hid (bs.length = n) := Lib.hid hlen
  have hy0 : (0 : Int) ≤ (y : Int) := by omega
  have hyc : (y : Int) ≤ (c : Int) := by have := hs.le; omega
  have hmk := make_fullT m (by omega)
  have hm4 : ¬ (4096 : Int) < (m : Int) := by omega
  have hma := Nat.le_trans hm (by decide : 4096 ≤ 1000000)
  have hwm : IntKind.i64.wrap (m : Int) = (m : Int) := by rw [IntKind.wrap_i64]; omega
  clear hs hb hc hbe hlen hbl hvp hpl ht hy hlm htn hRB hsr
  go_enter Try.func17, Try.ntmps17
  go_wp2_with fail
  refine HNew.out.mono ?_
  rintro e w1 ⟨b, g, rfl, hb0, hrd, hgr, hg1⟩
  have HV1 := Lib.hid (HVar.out b g w1 hrd)
  have HB1 : Hid (Below w.heap.size w w1) := Lib.hid (below_grown hgr (Nat.le_refl _))
  have HB0 := Lib.hid hb0
  have HG1 := Lib.hid hg1
  clear hb0 hrd hgr hg1
  dsimp only
  go_wp2_with fail
  refine HV1.out.mono ?_
  rintro e w2 ⟨rfl, ht2, hr2⟩
  have HNum : Hid (Calls Try.prog 39 #[.pointer (some ⟨b, 0, none⟩), .int .i64 1] w2 (RRead b g w2 1 0 r)) := Lib.hid (rnumber1_any b g (1 :: r) w2 hr2 HRB.out)
  have HB2 : Hid (Below w.heap.size w w2) := Lib.hid (turn_up HB1.out ht2 HB0.out)
  have HG2 : Hid (g < w2.heap.size) := Lib.hid (Nat.lt_of_lt_of_le HG1.out ht2.size)
  clear ht2 hr2 HV1
  dsimp only
  go_wp2_with fail
  refine HNum.out.mono ?_
  rintro e w3 ⟨rfl, ht3, hr3⟩
  have HB3 : Hid (Below w.heap.size w w3) := Lib.hid (turn_up HB2.out ht3 HB0.out)
  have HG3 : Hid (g < w3.heap.size) := Lib.hid (Nat.lt_of_lt_of_le HG2.out ht3.size)
  have HR3 := Lib.hid hr3
  have HBL : Hid (b < w3.heap.size) := Lib.hid hr3.lt
  clear ht3 hr3 HNum
  dsimp only
  have HB4 : Hid (Below w.heap.size w (w3.alloc (.cells (roomF m) 4))) := Lib.hid (HB3.out.alloc HB3.out.size _)
  have HR4 : Hid (RR (w3.alloc (.cells (roomF m) 4)) b g r) := Lib.hid (HR3.out.turn (Turn.alloc w3 _ nowhere) id id)
  have HO4 := Lib.hid (made_flags w3 l m (by omega) HLm.out)
  obtain ⟨G, hG⟩ : ∃ G, w3.heap.size = G := ⟨_, rfl⟩
  have hwG : w.heap.size ≤ G := by rw [← hG]; exact HB3.out.size
  have HLt : Hid (∀ k, k < m → l.getD k false = true) := Lib.hid (fun k hk => by rw [← hl]; simp [List.getD, hk])
  clear hl hwG hG
  have HWG : Hid (w.heap.size ≤ w3.heap.size) := Lib.hid HB3.out.size
  go_wp2
  go_loopw [16] (fun si wr => ∃ k : Nat, k ≤ m ∧ si = .int .i64 k ∧ Hid (wr.ownsRow w3.heap.size 4 1 (.slice (some ⟨w3.heap.size, 0, none⟩) m m) m ((fillF l k).map Value.bool)) ∧ Hid (Below w3.heap.size w3 wr)) (fun si _ => m - (intOf si).toNat)
  case atStart => exact ⟨0, Nat.zero_le _, rfl, HO4, Lib.hid ((Below.refl _ w3).alloc (Nat.le_refl _) _)⟩
  case round =>
    obtain ⟨k, hk, rfl, HO, HB⟩ := hrel
    by_cases hlt : k < m
    · have hcell := HO.out.cellAt k (by omega)
      have hkl : k < (fillF l k).length := by rw [fillF_len l k (by rw [HLm.out]; exact hk), HLm.out]; exact hlt
      rw [List.getElem?_map, List.getElem?_eq_getElem hkl] at hcell
      simp only [Option.map_some] at hcell
      have hfree := HO.out.frozenAt k
      have HO2 : Hid ((wr.setCell ⟨w3.heap.size, k, none⟩ (.bool true)).ownsRow w3.heap.size 4 1 (.slice (some ⟨w3.heap.size, 0, none⟩) m m) m ((fillF l (k + 1)).map Value.bool)) := Lib.hid (by
        rw [← fillF_set l k (by rw [HLm.out]; exact hlt), show l.getD k false = true from HLt.out k hlt, List.map_set]
        exact (HO.out.stored k (.bool true)).1)
      have HB2' : Hid (Below w3.heap.size w3 (wr.setCell ⟨w3.heap.size, k, none⟩ (.bool true))) := Lib.hid (HB.out.setCell (p := ⟨w3.heap.size, k, none⟩) (Nat.le_refl _) _)
      generalize (fillF l k)[k]'_ = q at hcell
      have hlt2 : (k : Int) < (m : Int) := by omega
      clear hkl
      go_wp2
      go_roundw
      case rel => exact ⟨k + 1, by omega, by go_num, HO2, HB2'⟩
      case measure => simp [intOf]; omega
    · obtain rfl : k = m := by omega
      have HBr : Hid (Below w.heap.size w wr) := Lib.hid (HB3.out.trans (In.below_mono HB.out HWG.out))
      have HRd : Hid (RR wr b g r) := Lib.hid (HR3.out.turn (turn_below HB.out) id id)
      obtain ⟨G, hG⟩ : ∃ G, w3.heap.size = G := ⟨_, rfl⟩
      have HSg : Hid (Bl.Seg wr (some ⟨G, 0, none⟩) k k l) := Lib.hid (by
        have h := HO.out
        have e : fillF l k = l := by have := fillF_all l; rwa [HLm.out] at this
        rw [e, hG] at h
        exact Bl.Seg.own h)
      rw [hG]
      clear hG HO
      have HLf := Lib.hid (rleft_any b g r wr HRd.out)
      have HPut := Lib.hid (rput_form HPN.out HPl.out (some ⟨G, 0, none⟩) k k wr HSg.out)
      rw [HSl.out] at HLf
      go_wp2_with (first
        | (go_at_call 43; refine HLf.out.mono ?_; rintro e w' ⟨rfl, rfl⟩)
        | fail)
      refine HPut.out.mono ?_
      rintro e w6 ⟨a6, k6, rfl, hs6, hT6⟩
      have HB6 : Hid (Below w.heap.size w w6) := Lib.hid (below_turn (Turn.then (turn_below HBr.out) hT6))
      have HS6 : Hid (Bl.Seg w6 (some ⟨G, 0, none⟩) k k l) := Lib.hid (bseg_stay HSg.out hT6)
      have hc1 : ∀ q, (convert 23 9 (.slice a6 pl k6)).run Try.prog (w6.drewN q) = .ok (.string (strOfNums (encN l))) (w6.drewN q) := fun q => In.conv_seg (hs6.grown (Turn.drewN w6 q nowhere).grown) HPp.out
      have hc2 : ∀ q, (convert 23 9 (.slice a y c)).run Try.prog (w6.drewN q) = .ok (.string (strOfNums (bs.take y))) (w6.drewN q) := fun q => In.conv_seg (((HSeg.out.grown (Bs.grown_of HB6.out)).take HY.out.2).grown (Turn.drewN w6 q nowhere).grown) (by have := HY.out.1; omega)
      clear hs6 hT6 HPut HLf
      dsimp only
      have hX := HX.out
      by_cases hsame : encN l = bs.take y
      · rw [if_pos hsame] at hX
        rw [hX] at hR
        simp only [resN, Prod.mk.injEq] at hR
        obtain ⟨rfl, rfl, rfl⟩ := hR
        obtain rfl : k = M := by rw [← hM, HLm.out]
        have HF : Hid (∀ q, GetX w k l (((bs.length : Nat) : Int) - ((r.length : Nat) : Int)) 0 (.returned (.tuple #[.slice (some ⟨G, 0, none⟩) k k, .int .i64 (y : Int), .int .i64 0])) (w6.drewN q)) := Lib.hid (fun q => ⟨_, k, by rw [HN.out, HSl.out, HYe.out], bseg_stay HS6.out (Turn.drewN w6 q nowhere), turn_below (Bs.below_drewN q HB6.out)⟩)
        rw [hsame] at hc1
        obtain ⟨Z, hZ⟩ : ∃ Z, strOfNums (bs.take y) = Z := ⟨_, rfl⟩
        rw [hZ] at hc1 hc2
        clear hsame hX hM hZ
        go_wp2
        go_quiet (fail)
        go_wp2
        go_ret3
        exact HF.out _
      · rw [if_neg hsame] at hX
        rw [hX] at hR
        simp only [resN, Prod.mk.injEq] at hR
        obtain ⟨rfl, rfl, rfl⟩ := hR
        obtain rfl : M = 0 := by rw [← hM]; rfl
        have HF : Hid (∀ q, GetX w 0 [] 0 4 (.returned (.tuple #[.slice none 0 0, .int .i64 0, .int .i64 4])) (w6.drewN q)) := Lib.hid (fun q => getx_bad (Bs.below_drewN q HB6.out))
        have hne := ne_strs HPB.out (In.isB_take HBs.out y) hsame
        obtain ⟨Z1, hZ1⟩ : ∃ Z, strOfNums (encN l) = Z := ⟨_, rfl⟩
        obtain ⟨Z2, hZ2⟩ : ∃ Z, strOfNums (bs.take y) = Z := ⟨_, rfl⟩
        rw [hZ1] at hc1 hne
        rw [hZ2] at hc2 hne
        clear hsame hX hM hZ1 hZ2
        go_wp2
        go_quiet (fail)
        go_wp2
        go_ret3
        exact HF.out _

end Go.Proofs.Ytpcilohiokpmnaa.Nu
namespace Go.Proofs.Ytpcilohiokpmnaa.Nu
open Go.RowKit
open Dv (Turn nowhere)
open Pk (Turn.then getR sizeN Fit PutF)
open Oct (readV ofB)
open In (At RR RRead RVarX rvar_any rnew_any rnumber1_any turn_up below_grown turn_more)

theorem rgetN_none {bs : List Int} {m : Nat} {r : List Int} {k : Int} (hc : readC bs = some (m, k :: r)) (h : rdK m k r = none) : rgetN bs = none := by
  unfold rgetN rdN
  rw [hc]
  simp only
  rw [h]

/-- a row of truth values holds no numbers -/
theorem bool_block {w : World} {base G n : Nat} {F : List Bool} (h : w.ownsRow base 4 1 (.slice (some ⟨G, 0, none⟩) n n) n (F.map Value.bool)) {o : Nat} {x : Int} (hc : w.cell? ⟨G, o, none⟩ = some (.int .u64 x)) : False := by
  rcases h.2 with ⟨e1, _⟩ | ⟨g0, cap, cur, e1, hbg, hg, hnc, hcm, hcs, htake⟩
  · cases e1
  · cases e1
    have hl : cur.toList = F.map Value.bool := by
      rw [← htake, List.take_of_length_le (by simp; omega)]
    unfold World.cell? at hc
    rw [show (⟨G, o, none⟩ : Addr).block = G from rfl, hg] at hc
    simp only at hc
    rw [← Array.getElem?_toList, hl] at hc
    obtain ⟨bb, _, hbb⟩ := List.mem_map.1 (List.mem_of_getElem? hc)
    cases hbb

set_option maxRecDepth 100000 in
set_option maxHeartbeats 4000000 in
theorem rget_more (a : Option Addr) (n c : Nat) (bs : List Int) (m : Nat) (r : List Int) (w : World) (hs : Bs.Seg w a n c bs) (hb : Oct.IsB bs) (hn : n ≤ 100000000) (hc : readC bs = some (m, 2 :: r)) (M : Nat) (L : List Bool) (z E : Int) (hR : resN bs (rgetN bs) = (L, z, E)) (hM : L.length = M) (hshort : r.length < sizeN m 1) :
    Calls Try.prog 17 #[.slice a n c] w (GetX w M L z E) := by
  have HNew := Lib.hid (rnew_any a n c bs w hs (by omega))
  obtain ⟨hm, hbe⟩ := readC_some hb hc
  have hRB : Oct.IsB r := fun x hx => isB_right (hbe ▸ hb) x (List.mem_cons_of_mem _ hx)
  have HRB : Hid (Oct.IsB (2 :: r)) := Lib.hid (isB_right (hbe ▸ hb))
  have HVar := Lib.hid (rvar_count hb hc)
  have hlen := hs.len
  have hbl := congrArg List.length hbe
  rw [List.length_append, List.length_cons, hlen] at hbl
  have hvp := Oct.varB_pos 9 (m : Int)
  have HSeg := Lib.hid hs
  have HBs := Lib.hid hb
  rw [rgetN_none hc (show rdK m 2 r = none from by unfold rdK; rw [if_neg (by decide), if_pos rfl]; unfold rdP; rw [if_pos hshort])] at hR
  simp only [resN, Prod.mk.injEq] at hR
  obtain ⟨rfl, rfl, rfl⟩ := hR
  obtain rfl : M = 0 := by rw [← hM]; rfl
  have hsz := sizeN_le (n := m) (by omega)
  have HSz : Hid (∀ W, Calls Try.prog 41 #[.int .i64 m, .int .i64 1] W fun e w' => e = .returned (.int .i64 (sizeN m 1 : Int)) ∧ W = w') := Lib.hid (fun W => by
    have := Pk.rsize_any (m : Int) 1 W
    rwa [sizeF_one (by omega)] at this)
  have hmk := make_fullT m (by omega)
  have hm4 : ¬ (4096 : Int) < (m : Int) := by omega
  have hwm : IntKind.i64.wrap (m : Int) = (m : Int) := by rw [IntKind.wrap_i64]; omega
  obtain ⟨S, hS⟩ : ∃ S, sizeN m 1 = S := ⟨_, rfl⟩
  rw [hS] at HSz hshort
  obtain ⟨E1, X1, hE1⟩ : ∃ E1 X1, getR [] (m : Int) 1 = (E1, X1) := ⟨_, _, rfl⟩
  obtain ⟨q1, hq1⟩ : ∃ q, X1.length = q := ⟨_, rfl⟩
  have HGet := Lib.hid (fun W => rgetp_form hE1 hq1 (fun x hx => by cases hx) none 0 0 W (Bs.Seg.nil W))
  have HShort := Lib.hid hshort
  clear hs hb hc hbe hlen hbl hvp hRB hM hshort hS hE1 hq1 hsz
  go_enter Try.func17, Try.ntmps17
  go_wp2_with fail
  refine HNew.out.mono ?_
  rintro e w1 ⟨b, g, rfl, hb0, hrd, hgr, hg1⟩
  have HV1 := Lib.hid (HVar.out b g w1 hrd)
  have HB1 : Hid (Below w.heap.size w w1) := Lib.hid (below_grown hgr (Nat.le_refl _))
  have HB0 := Lib.hid hb0
  have HG1 := Lib.hid hg1
  clear hb0 hrd hgr hg1
  dsimp only
  go_wp2_with fail
  refine HV1.out.mono ?_
  rintro e w2 ⟨rfl, ht2, hr2⟩
  have HNum : Hid (Calls Try.prog 39 #[.pointer (some ⟨b, 0, none⟩), .int .i64 1] w2 (RRead b g w2 2 0 r)) := Lib.hid (rnumber1_any b g (2 :: r) w2 hr2 HRB.out)
  have HB2 : Hid (Below w.heap.size w w2) := Lib.hid (turn_up HB1.out ht2 HB0.out)
  have HG2 : Hid (g < w2.heap.size) := Lib.hid (Nat.lt_of_lt_of_le HG1.out ht2.size)
  clear ht2 hr2 HV1
  dsimp only
  go_wp2_with fail
  refine HNum.out.mono ?_
  rintro e w3 ⟨rfl, ht3, hr3⟩
  have HB3 : Hid (Below w.heap.size w w3) := Lib.hid (turn_up HB2.out ht3 HB0.out)
  have HG3 : Hid (g < w3.heap.size) := Lib.hid (Nat.lt_of_lt_of_le HG2.out ht3.size)
  have HR3 := Lib.hid hr3
  have HBL : Hid (b < w3.heap.size) := Lib.hid hr3.lt
  clear ht3 hr3 HNum
  dsimp only
  have HR4 : Hid (RR (w3.alloc (.cells (roomF m) 4)) b g r) := Lib.hid (HR3.out.turn (Turn.alloc w3 _ nowhere) id id)
  have HBy := Lib.hid (In.rbytes_more b g r S _ HR4.out HShort.out)
  have HB4 : Hid (Below w.heap.size w (w3.alloc (.cells (roomF m) 4))) := Lib.hid (HB3.out.alloc HB3.out.size _)
  go_wp2_with (first
    | (go_at_call 41; refine (HSz.out _).mono ?_; rintro e w' ⟨rfl, rfl⟩)
    | fail)
  refine HBy.out.mono ?_
  rintro e w4 ⟨rfl, rfl⟩
  dsimp only
  go_wp2_with fail
  refine (HGet.out _).mono ?_
  rintro e w5 ⟨a5, k5, rfl, hs5, hT5⟩
  have HF : Hid (GetX w 0 [] 0 4 (.returned (.tuple #[.slice none 0 0, .int .i64 0, .int .i64 4])) w5) := Lib.hid (getx_bad (below_turn (Turn.then (turn_below HB4.out) hT5)))
  clear hs5 hT5
  dsimp only
  go_wp2
  go_ret3
  exact HF.out

set_option maxRecDepth 100000 in
set_option maxHeartbeats 4000000 in
theorem rget_2 (a : Option Addr) (n c : Nat) (bs : List Int) (m : Nat) (r : List Int) (w : World) (hs : Bs.Seg w a n c bs) (hb : Oct.IsB bs) (hn : n ≤ 100000000) (hc : readC bs = some (m, 2 :: r)) (M : Nat) (L : List Bool) (z E : Int) (hR : resN bs (rgetN bs) = (L, z, E)) (hM : L.length = M) (hshort : ¬ r.length < sizeN m 1) :
    Calls Try.prog 17 #[.slice a n c] w (GetX w M L z E) := by
  have HNew := Lib.hid (rnew_any a n c bs w hs (by omega))
  obtain ⟨hm, hbe⟩ := readC_some hb hc
  have hRB : Oct.IsB r := fun x hx => isB_right (hbe ▸ hb) x (List.mem_cons_of_mem _ hx)
  have HRB : Hid (Oct.IsB (2 :: r)) := Lib.hid (isB_right (hbe ▸ hb))
  have HVar := Lib.hid (rvar_count hb hc)
  have hlen := hs.len
  have hbl := congrArg List.length hbe
  rw [List.length_append, List.length_cons, hlen] at hbl
  have hvp := Oct.varB_pos 9 (m : Int)
  have HSeg := Lib.hid hs
  have HBs := Lib.hid hb
  have hsz := sizeN_le (n := m) (by omega)
  have HSz : Hid (∀ W, Calls Try.prog 41 #[.int .i64 m, .int .i64 1] W fun e w' => e = .returned (.int .i64 (sizeN m 1 : Int)) ∧ W = w') := Lib.hid (fun W => by
    have := Pk.rsize_any (m : Int) 1 W
    rwa [sizeF_one (by omega)] at this)
  have hfit : Fit 8 (r.take (sizeN m 1)) := Pk.fit_isB (fun x hx => hRB x (List.mem_of_mem_take hx))
  have htl : (r.take (sizeN m 1)).length = sizeN m 1 := by rw [List.length_take]; omega
  obtain ⟨E1, X1, hE1⟩ : ∃ E1 X1, getR (r.take (sizeN m 1)) (m : Int) 1 = (E1, X1) := ⟨_, _, rfl⟩
  have hput := Pk.put_get _ (m : Int) 1 hfit
  rw [hE1] at hput
  dsimp only at hput
  obtain ⟨q1, hq1⟩ : ∃ q, X1.length = q := ⟨_, rfl⟩
  have HGet := Lib.hid (fun a' c' W h => rgetp_form hE1 hq1 hfit a' (sizeN m 1) c' W h)
  by_cases he : E1 = 0
  · subst he
    obtain ⟨-, hp2, -, hp4⟩ := hput rfl
    obtain rfl : q1 = m := by rw [← hq1]; omega
    obtain ⟨l, hl⟩ : ∃ l, backL X1 = l := ⟨_, rfl⟩
    obtain ⟨s, hsr⟩ : ∃ s, r.drop (sizeN q1 1) = s := ⟨_, rfl⟩
    have hlm : l.length = q1 := by rw [← hl, back_len, hq1]
    have HLm : Hid (l.length = q1) := Lib.hid hlm
    have HPN : Hid (putN l = (0, encN l)) := Lib.hid (by unfold putN; rw [if_neg (by omega)])
    obtain ⟨pl, hpl⟩ : ∃ p, (encN l).length = p := ⟨_, rfl⟩
    have HPl := Lib.hid hpl
    have HPp : Hid (0 < pl) := Lib.hid (by have := (enc_len (l := l) (by omega)).1; omega)
    have HPB := Lib.hid (enc_isB (l := l) (by omega))
    obtain ⟨t, ht⟩ : ∃ t, s.length = t := ⟨_, rfl⟩
    have HSl := Lib.hid ht
    have htn : t + 2 ≤ n := by rw [← ht, ← hsr, List.length_drop]; omega
    obtain ⟨y, hy⟩ : ∃ y, n - t = y := ⟨_, rfl⟩
    have HX : Hid (rgetN bs = if encN l = bs.take y then some (l, s) else none) := Lib.hid (by
      unfold rgetN
      rw [show rdN bs = some (2, l, s) from by unfold rdN; rw [hc]; simp only; unfold rdK; rw [if_neg (by decide), if_pos rfl]; unfold rdP; rw [if_neg hshort, hE1, if_neg (by simp), hl, hsr]]
      simp only
      rw [hlen, ht, hy])
    have HY : Hid (2 ≤ y ∧ y ≤ n) := Lib.hid (by omega)
    have hyw : IntKind.i64.wrap ((n : Int) - (t : Int)) = (y : Int) := by rw [IntKind.wrap_i64]; omega
    have HYe : Hid ((n : Int) - (t : Int) = (y : Int)) := Lib.hid (by omega)
    have HN : Hid (bs.length = n) := Lib.hid hlen
    have hy0 : (0 : Int) ≤ (y : Int) := by omega
    have hyc : (y : Int) ≤ (c : Int) := by have := hs.le; omega
    have hmk := make_fullT q1 (by omega)
    have hm4 : ¬ (4096 : Int) < (q1 : Int) := by omega
    have hma := Nat.le_trans hm (by decide : 4096 ≤ 1000000)
    have hwm : IntKind.i64.wrap (q1 : Int) = (q1 : Int) := by rw [IntKind.wrap_i64]; omega
    have HLong : Hid (sizeN q1 1 ≤ r.length ∧ r.length ≤ 100000000) := Lib.hid (by omega)
    have HXl : Hid (X1.length = q1) := Lib.hid hq1
    have HLX := Lib.hid hl
    obtain ⟨S, hS⟩ : ∃ S, sizeN q1 1 = S := ⟨_, rfl⟩
    rw [hS] at HSz HLong HGet hsr
    have HSr := Lib.hid hsr
    clear hs hb hc hbe hlen hbl hvp hpl ht hy hlm htn hRB hS hE1 hq1 hsz hfit htl hput hp2 hp4 hshort hl hsr
    go_enter Try.func17, Try.ntmps17
    go_wp2_with fail
    refine HNew.out.mono ?_
    rintro e w1 ⟨b, g, rfl, hb0, hrd, hgr, hg1⟩
    have HV1 := Lib.hid (HVar.out b g w1 hrd)
    have HB1 : Hid (Below w.heap.size w w1) := Lib.hid (below_grown hgr (Nat.le_refl _))
    have HB0 := Lib.hid hb0
    have HG1 := Lib.hid hg1
    clear hb0 hrd hgr hg1
    dsimp only
    go_wp2_with fail
    refine HV1.out.mono ?_
    rintro e w2 ⟨rfl, ht2, hr2⟩
    have HNum : Hid (Calls Try.prog 39 #[.pointer (some ⟨b, 0, none⟩), .int .i64 1] w2 (RRead b g w2 2 0 r)) := Lib.hid (rnumber1_any b g (2 :: r) w2 hr2 HRB.out)
    have HB2 : Hid (Below w.heap.size w w2) := Lib.hid (turn_up HB1.out ht2 HB0.out)
    have HG2 : Hid (g < w2.heap.size) := Lib.hid (Nat.lt_of_lt_of_le HG1.out ht2.size)
    clear ht2 hr2 HV1
    dsimp only
    go_wp2_with fail
    refine HNum.out.mono ?_
    rintro e w3 ⟨rfl, ht3, hr3⟩
    have HB3 : Hid (Below w.heap.size w w3) := Lib.hid (turn_up HB2.out ht3 HB0.out)
    have HG3 : Hid (g < w3.heap.size) := Lib.hid (Nat.lt_of_lt_of_le HG2.out ht3.size)
    have HR3 := Lib.hid hr3
    have HBL : Hid (b < w3.heap.size) := Lib.hid hr3.lt
    clear ht3 hr3 HNum
    dsimp only
    have HB4 : Hid (Below w.heap.size w (w3.alloc (.cells (roomF q1) 4))) := Lib.hid (HB3.out.alloc HB3.out.size _)
    have HR4 : Hid (RR (w3.alloc (.cells (roomF q1) 4)) b g r) := Lib.hid (HR3.out.turn (Turn.alloc w3 _ nowhere) id id)
    have HO4 := Lib.hid (made_flags w3 l q1 (by omega) HLm.out)
    have HBy := Lib.hid (In.rbytes_yes b g r S _ HR4.out HLong.out.1 HLong.out.2)
    obtain ⟨G, hG⟩ : ∃ G, w3.heap.size = G := ⟨_, rfl⟩
    have HGz : Hid (w3.heap.size = G) := Lib.hid hG
    have HWG : Hid (w.heap.size ≤ G) := Lib.hid (by rw [← hG]; exact HB3.out.size)
    have HGb : Hid (¬ G = b ∧ ¬ G = g) := Lib.hid (by have := HBL.out; have := HG3.out; omega)
    rw [hG] at HO4
    clear hG
    go_wp2_with (first
      | (go_at_call 41; refine (HSz.out _).mono ?_; rintro e w' ⟨rfl, rfl⟩)
      | fail)
    refine HBy.out.mono ?_
    rintro e w4 ⟨g4, c4, rfl, hown4, hT4, hr4⟩
    have HG4 := Lib.hid (HGet.out _ _ w4 (Bs.Seg.own hown4))
    have HB5 : Hid (Below w.heap.size w w4) := Lib.hid (turn_up HB4.out hT4 HB0.out)
    have HO5 : Hid (w4.ownsRow G 4 1 (.slice (some ⟨G, 0, none⟩) q1 q1) q1 ((fillF l 0).map Value.bool)) := Lib.hid (Pk.own_turn_any HO4.out hT4 (fun h => HGb.out.1 h))
    have HR5 : Hid (RR w4 b g s) := Lib.hid (by rw [← HSr.out]; exact hr4)
    have HZ5 : Hid (G < w4.heap.size) := Lib.hid (HO5.out.lt _ rfl).2
    clear hown4 hT4 hr4
    rw [HGz.out]
    dsimp only
    go_wp2_with fail
    refine HG4.out.mono ?_
    rintro e w5 ⟨a5, k5, rfl, hs5, hT5⟩
    have HB6' : Hid (Below w.heap.size w w5) := Lib.hid (below_turn (Turn.then (turn_below HB5.out) hT5))
    have HO6 : Hid (w5.ownsRow G 4 1 (.slice (some ⟨G, 0, none⟩) q1 q1) q1 ((fillF l 0).map Value.bool)) := Lib.hid (Pk.own_turn_any HO5.out hT5 id)
    have HR6 : Hid (RR w5 b g s) := Lib.hid (HR5.out.turn hT5 id id)
    have HX6 := Lib.hid hs5
    have HNe : Hid (∀ ad, a5 = some ad → 0 < q1 → ¬ G = ad.block) := Lib.hid (fun ad had h0 e => by
      obtain ⟨gx, ox, ex, hcx⟩ := hs5.addr h0
      rw [ex] at had
      cases had
      have h2 := hcx 0 h0
      have h4 : G = gx := e
      subst h4
      exact bool_block HO6.out h2)
    clear hs5 hT5 HG4
    dsimp only
    go_wp2
    go_loopw [15] (fun si wr => ∃ k : Nat, k ≤ q1 ∧ si = .int .i64 k ∧ Hid (wr.ownsRow G 4 1 (.slice (some ⟨G, 0, none⟩) q1 q1) q1 ((fillF l k).map Value.bool)) ∧ Hid (Turn w5 wr (fun i => i = G))) (fun si _ => q1 - (intOf si).toNat)
    case atStart => exact ⟨0, Nat.zero_le _, rfl, HO6, Lib.hid (Turn.refl _ _)⟩
    case round =>
      obtain ⟨k, hk, rfl, HO, HT⟩ := hrel
      by_cases hlt : k < q1
      · have hcell := HO.out.cellAt k (by omega)
        have hkl : k < (fillF l k).length := by rw [fillF_len l k (by rw [HLm.out]; exact hk), HLm.out]; exact hlt
        rw [List.getElem?_map, List.getElem?_eq_getElem hkl] at hcell
        simp only [Option.map_some] at hcell
        have hfree := HO.out.frozenAt k
        obtain ⟨gx, ox, ex, hcx⟩ := HX6.out.addr (by omega)
        have hxk := HT.out.cell (hcx k hlt) (fun h => HNe.out _ ex (by omega) h.symm)
        have HLk : Hid (l.getD k false = decide (X1.getD k 0 = 1)) := Lib.hid (by
          rw [← HLX.out]
          unfold backL
          simp [List.getD, show k < X1.length from by rw [HXl.out]; exact hlt])
        obtain ⟨x, hx⟩ : ∃ x, X1.getD k 0 = x := ⟨_, rfl⟩
        rw [hx] at hxk HLk
        obtain ⟨d, hd⟩ : ∃ d, decide (x = 1) = d := ⟨_, rfl⟩
        have hxd : (x == 1) = d := by rw [← hd]; rfl
        rw [hd] at HLk
        have HO2 : Hid ((wr.setCell ⟨G, k, none⟩ (.bool d)).ownsRow G 4 1 (.slice (some ⟨G, 0, none⟩) q1 q1) q1 ((fillF l (k + 1)).map Value.bool)) := Lib.hid (by
          rw [← fillF_set l k (by rw [HLm.out]; exact hlt), HLk.out, List.map_set]
          exact (HO.out.stored k (.bool d)).1)
        have HT2 : Hid (Turn w5 (wr.setCell ⟨G, k, none⟩ (.bool d)) (fun i => i = G)) := Lib.hid (Turn.trans HT.out (Turn.setCell wr ⟨G, k, none⟩ (.bool d) (S := fun i => i = G) rfl) (fun i _ h => h))
        generalize (fillF l k)[k]'_ = q at hcell
        subst ex
        have hlt2 : (k : Int) < (q1 : Int) := by omega
        clear hkl hcx hx hd
        go_wp2
        go_roundw
        case rel => exact ⟨k + 1, by omega, by go_num, HO2, HT2⟩
        case measure => simp [intOf]; omega
      · obtain rfl : k = q1 := by omega
        have HBr : Hid (Below w.heap.size w wr) := Lib.hid ⟨HT.out.os.trans HB6'.out.os, HT.out.tape.trans HB6'.out.tape, HT.out.output.trans HB6'.out.output, Nat.le_trans HB6'.out.size HT.out.size, fun i hi => (HT.out.block i (Nat.lt_of_lt_of_le hi HB6'.out.size) (fun e => by have := HWG.out; omega)).trans (HB6'.out.block i hi)⟩
        have HRd : Hid (RR wr b g s) := Lib.hid (HR6.out.turn HT.out (fun h => HGb.out.1 h.symm) (fun h => HGb.out.2 h.symm))
        have HSg : Hid (Bl.Seg wr (some ⟨G, 0, none⟩) k k l) := Lib.hid (by
          have h := HO.out
          have e : fillF l k = l := by have := fillF_all l; rwa [HLm.out] at this
          rw [e] at h
          exact Bl.Seg.own h)
        clear HO HT
        go_wp2
        refine wp_loop_rounds 1 ?_
        rw [rounds_succ]
        by_cases hm0 : k = 0
        · have hlt : decide ((0 : Int) < (k : Int)) = false := decide_eq_false (by omega)
          have hlt2 : ¬ (0 : Int) < (k : Int) := by omega
          clear hm0
          have HLf := Lib.hid (rleft_any b g s wr HRd.out)
          have HPut := Lib.hid (rput_form HPN.out HPl.out (some ⟨G, 0, none⟩) k k wr HSg.out)
          rw [HSl.out] at HLf
          go_wp2_with (first
            | (go_at_call 43; refine HLf.out.mono ?_; rintro e w' ⟨rfl, rfl⟩)
            | fail)
          refine HPut.out.mono ?_
          rintro e w6 ⟨a6, k6, rfl, hs6, hT6⟩
          have HB6 : Hid (Below w.heap.size w w6) := Lib.hid (below_turn (Turn.then (turn_below HBr.out) hT6))
          have HS6 : Hid (Bl.Seg w6 (some ⟨G, 0, none⟩) k k l) := Lib.hid (bseg_stay HSg.out hT6)
          have hc1 : ∀ q, (convert 23 9 (.slice a6 pl k6)).run Try.prog (w6.drewN q) = .ok (.string (strOfNums (encN l))) (w6.drewN q) := fun q => In.conv_seg (hs6.grown (Turn.drewN w6 q nowhere).grown) HPp.out
          have hc2 : ∀ q, (convert 23 9 (.slice a y c)).run Try.prog (w6.drewN q) = .ok (.string (strOfNums (bs.take y))) (w6.drewN q) := fun q => In.conv_seg (((HSeg.out.grown (Bs.grown_of HB6.out)).take HY.out.2).grown (Turn.drewN w6 q nowhere).grown) (by have := HY.out.1; omega)
          clear hs6 hT6 HPut HLf
          dsimp only
          have hX := HX.out
          by_cases hsame : encN l = bs.take y
          · rw [if_pos hsame] at hX
            rw [hX] at hR
            simp only [resN, Prod.mk.injEq] at hR
            obtain ⟨rfl, rfl, rfl⟩ := hR
            obtain rfl : k = M := by rw [← hM, HLm.out]
            have HF : Hid (∀ q, GetX w k l (((bs.length : Nat) : Int) - ((s.length : Nat) : Int)) 0 (.returned (.tuple #[.slice (some ⟨G, 0, none⟩) k k, .int .i64 (y : Int), .int .i64 0])) (w6.drewN q)) := Lib.hid (fun q => ⟨_, k, by rw [HN.out, HSl.out, HYe.out], bseg_stay HS6.out (Turn.drewN w6 q nowhere), turn_below (Bs.below_drewN q HB6.out)⟩)
            rw [hsame] at hc1
            obtain ⟨Z, hZ⟩ : ∃ Z, strOfNums (bs.take y) = Z := ⟨_, rfl⟩
            rw [hZ] at hc1 hc2
            clear hsame hX hM hZ
            go_wp2
            go_quiet (fail)
            go_wp2
            go_ret3
            exact HF.out _
          · rw [if_neg hsame] at hX
            rw [hX] at hR
            simp only [resN, Prod.mk.injEq] at hR
            obtain ⟨rfl, rfl, rfl⟩ := hR
            obtain rfl : M = 0 := by rw [← hM]; rfl
            have HF : Hid (∀ q, GetX w 0 [] 0 4 (.returned (.tuple #[.slice none 0 0, .int .i64 0, .int .i64 4])) (w6.drewN q)) := Lib.hid (fun q => getx_bad (Bs.below_drewN q HB6.out))
            have hne := ne_strs HPB.out (In.isB_take HBs.out y) hsame
            obtain ⟨Z1, hZ1⟩ : ∃ Z, strOfNums (encN l) = Z := ⟨_, rfl⟩
            obtain ⟨Z2, hZ2⟩ : ∃ Z, strOfNums (bs.take y) = Z := ⟨_, rfl⟩
            rw [hZ1] at hc1 hne
            rw [hZ2] at hc2 hne
            clear hsame hX hM hZ1 hZ2
            go_wp2
            go_quiet (fail)
            go_wp2
            go_ret3
            exact HF.out _
        · have hlt : decide ((0 : Int) < (k : Int)) = true := decide_eq_true (by omega)
          have hlt2 : (0 : Int) < (k : Int) := by omega
          clear hm0
          have HLf := Lib.hid (rleft_any b g s wr HRd.out)
          have HPut := Lib.hid (rput_form HPN.out HPl.out (some ⟨G, 0, none⟩) k k wr HSg.out)
          rw [HSl.out] at HLf
          go_wp2_with (first
            | (go_at_call 43; refine HLf.out.mono ?_; rintro e w' ⟨rfl, rfl⟩)
            | fail)
          refine HPut.out.mono ?_
          rintro e w6 ⟨a6, k6, rfl, hs6, hT6⟩
          have HB6 : Hid (Below w.heap.size w w6) := Lib.hid (below_turn (Turn.then (turn_below HBr.out) hT6))
          have HS6 : Hid (Bl.Seg w6 (some ⟨G, 0, none⟩) k k l) := Lib.hid (bseg_stay HSg.out hT6)
          have hc1 : ∀ q, (convert 23 9 (.slice a6 pl k6)).run Try.prog (w6.drewN q) = .ok (.string (strOfNums (encN l))) (w6.drewN q) := fun q => In.conv_seg (hs6.grown (Turn.drewN w6 q nowhere).grown) HPp.out
          have hc2 : ∀ q, (convert 23 9 (.slice a y c)).run Try.prog (w6.drewN q) = .ok (.string (strOfNums (bs.take y))) (w6.drewN q) := fun q => In.conv_seg (((HSeg.out.grown (Bs.grown_of HB6.out)).take HY.out.2).grown (Turn.drewN w6 q nowhere).grown) (by have := HY.out.1; omega)
          clear hs6 hT6 HPut HLf
          dsimp only
          have hX := HX.out
          by_cases hsame : encN l = bs.take y
          · rw [if_pos hsame] at hX
            rw [hX] at hR
            simp only [resN, Prod.mk.injEq] at hR
            obtain ⟨rfl, rfl, rfl⟩ := hR
            obtain rfl : k = M := by rw [← hM, HLm.out]
            have HF : Hid (∀ q, GetX w k l (((bs.length : Nat) : Int) - ((s.length : Nat) : Int)) 0 (.returned (.tuple #[.slice (some ⟨G, 0, none⟩) k k, .int .i64 (y : Int), .int .i64 0])) (w6.drewN q)) := Lib.hid (fun q => ⟨_, k, by rw [HN.out, HSl.out, HYe.out], bseg_stay HS6.out (Turn.drewN w6 q nowhere), turn_below (Bs.below_drewN q HB6.out)⟩)
            rw [hsame] at hc1
            obtain ⟨Z, hZ⟩ : ∃ Z, strOfNums (bs.take y) = Z := ⟨_, rfl⟩
            rw [hZ] at hc1 hc2
            clear hsame hX hM hZ
            go_wp2
            go_quiet (fail)
            go_wp2
            go_ret3
            exact HF.out _
          · rw [if_neg hsame] at hX
            rw [hX] at hR
            simp only [resN, Prod.mk.injEq] at hR
            obtain ⟨rfl, rfl, rfl⟩ := hR
            obtain rfl : M = 0 := by rw [← hM]; rfl
            have HF : Hid (∀ q, GetX w 0 [] 0 4 (.returned (.tuple #[.slice none 0 0, .int .i64 0, .int .i64 4])) (w6.drewN q)) := Lib.hid (fun q => getx_bad (Bs.below_drewN q HB6.out))
            have hne := ne_strs HPB.out (In.isB_take HBs.out y) hsame
            obtain ⟨Z1, hZ1⟩ : ∃ Z, strOfNums (encN l) = Z := ⟨_, rfl⟩
            obtain ⟨Z2, hZ2⟩ : ∃ Z, strOfNums (bs.take y) = Z := ⟨_, rfl⟩
            rw [hZ1] at hc1 hne
            rw [hZ2] at hc2 hne
            clear hsame hX hM hZ1 hZ2
            go_wp2
            go_quiet (fail)
            go_wp2
            go_ret3
            exact HF.out _
  · have he1 : (E1 != 0) = true := bne_iff_ne.2 he
    have he2 : (E1 == 0) = false := beq_eq_false_iff_ne.2 he
    rw [rgetN_none hc (show rdK m 2 r = none from by unfold rdK; rw [if_neg (by decide), if_pos rfl]; unfold rdP; rw [if_neg hshort, hE1, if_pos he])] at hR
    simp only [resN, Prod.mk.injEq] at hR
    obtain ⟨rfl, rfl, rfl⟩ := hR
    obtain rfl : M = 0 := by rw [← hM]; rfl
    have hmk := make_fullT m (by omega)
    have hm4 : ¬ (4096 : Int) < (m : Int) := by omega
    have hwm : IntKind.i64.wrap (m : Int) = (m : Int) := by rw [IntKind.wrap_i64]; omega
    have HLong : Hid (sizeN m 1 ≤ r.length ∧ r.length ≤ 100000000) := Lib.hid (by omega)
    obtain ⟨S, hS⟩ : ∃ S, sizeN m 1 = S := ⟨_, rfl⟩
    rw [hS] at HSz HLong HGet
    clear hs hb hc hbe hlen hbl hvp hRB hM hshort hS hE1 hq1 hsz hfit htl hput he
    go_enter Try.func17, Try.ntmps17
    go_wp2_with fail
    refine HNew.out.mono ?_
    rintro e w1 ⟨b, g, rfl, hb0, hrd, hgr, hg1⟩
    have HV1 := Lib.hid (HVar.out b g w1 hrd)
    have HB1 : Hid (Below w.heap.size w w1) := Lib.hid (below_grown hgr (Nat.le_refl _))
    have HB0 := Lib.hid hb0
    have HG1 := Lib.hid hg1
    clear hb0 hrd hgr hg1
    dsimp only
    go_wp2_with fail
    refine HV1.out.mono ?_
    rintro e w2 ⟨rfl, ht2, hr2⟩
    have HNum : Hid (Calls Try.prog 39 #[.pointer (some ⟨b, 0, none⟩), .int .i64 1] w2 (RRead b g w2 2 0 r)) := Lib.hid (rnumber1_any b g (2 :: r) w2 hr2 HRB.out)
    have HB2 : Hid (Below w.heap.size w w2) := Lib.hid (turn_up HB1.out ht2 HB0.out)
    have HG2 : Hid (g < w2.heap.size) := Lib.hid (Nat.lt_of_lt_of_le HG1.out ht2.size)
    clear ht2 hr2 HV1
    dsimp only
    go_wp2_with fail
    refine HNum.out.mono ?_
    rintro e w3 ⟨rfl, ht3, hr3⟩
    have HB3 : Hid (Below w.heap.size w w3) := Lib.hid (turn_up HB2.out ht3 HB0.out)
    have HG3 : Hid (g < w3.heap.size) := Lib.hid (Nat.lt_of_lt_of_le HG2.out ht3.size)
    have HR3 := Lib.hid hr3
    have HBL : Hid (b < w3.heap.size) := Lib.hid hr3.lt
    clear ht3 hr3 HNum
    dsimp only
    have HR4 : Hid (RR (w3.alloc (.cells (roomF m) 4)) b g r) := Lib.hid (HR3.out.turn (Turn.alloc w3 _ nowhere) id id)
    have HBy := Lib.hid (In.rbytes_yes b g r S _ HR4.out HLong.out.1 HLong.out.2)
    have HB4 : Hid (Below w.heap.size w (w3.alloc (.cells (roomF m) 4))) := Lib.hid (HB3.out.alloc HB3.out.size _)
    go_wp2_with (first
      | (go_at_call 41; refine (HSz.out _).mono ?_; rintro e w' ⟨rfl, rfl⟩)
      | fail)
    refine HBy.out.mono ?_
    rintro e w4 ⟨g4, c4, rfl, hown4, hT4, hr4⟩
    have HG4 := Lib.hid (HGet.out _ _ w4 (Bs.Seg.own hown4))
    have HB5 : Hid (Below w.heap.size w w4) := Lib.hid (turn_up HB4.out hT4 HB0.out)
    clear hown4 hT4 hr4
    dsimp only
    go_wp2_with fail
    refine HG4.out.mono ?_
    rintro e w5 ⟨a5, k5, rfl, hs5, hT5⟩
    have HF : Hid (GetX w 0 [] 0 4 (.returned (.tuple #[.slice none 0 0, .int .i64 0, .int .i64 4])) w5) := Lib.hid (getx_bad (below_turn (Turn.then (turn_below HB5.out) hT5)))
    clear hs5 hT5
    dsimp only
    go_wp2
    go_ret3
    exact HF.out

end Go.Proofs.Ytpcilohiokpmnaa.Nu
