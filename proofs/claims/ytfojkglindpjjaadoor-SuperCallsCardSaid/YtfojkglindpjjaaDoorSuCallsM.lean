/-
  SuperCalls: the document's answers (Check, Put, Get, Choose), and the program's beside them.
-/
import Derived.Test.YtfojkglindpjjaaDoorSuLaw
import Derived.Test.YtfojkglindpjjaaDoorFrRPut
import Derived.Test.YtfojkglindpjjaaDoorFrRKind
import Derived.Test.YtfojkglindpjjaaDoorSuGet
import Derived.Test.YtfojkglindpjjaaDoorSuChoose
namespace Go.Proofs.YtfojkglindpjjaaDoor.Su
open Go.RowKit Bs Dv Gr
open Fr (room)

set_option maxHeartbeats 1000000 in
theorem rpages_any (size blocks : Int) (w : World) : Calls Tryd.prog 24 #[.agg #[.int .i64 size, .int .i64 blocks]] w fun e w' => e = .returned (.int .i64 (pagesF size blocks)) ∧ w.grownBy w' none := by
  have B0 := heap_alloc_new w (.cells #[.int .i64 size, .int .i64 blocks] 25)
  have G0 := grown_alloc w (.cells #[.int .i64 size, .int .i64 blocks] 25)
  have HC := Lib.hid (fun W => (rcheck_any size blocks W).mono fun e w' (h : _ ∧ _) => (show e = .returned (.int .i64 (geoE size blocks)) ∧ W.grownBy w' none from ⟨h.1, h.2.grown⟩))
  have HB0 := Lib.hid B0
  have HG0 := Lib.hid G0
  obtain ⟨E, hE⟩ : ∃ E, geoE size blocks = E := ⟨_, rfl⟩
  rw [hE] at HC
  by_cases h : GeoOk size blocks
  · have h0 : E = 0 := by rw [← hE]; exact (geo_iff _ _).2 h
    have hr := geo_room h
    have hp := pages_bounds h
    have HR := Lib.hid (fun W => Fr.rroom_any size W)
    have HP : Hid (pagesF size blocks = (2 * blocks + room size - 1) / room size) := Lib.hid (if_pos h)
    unfold GeoOk at h
    rw [hr] at HP HR
    obtain ⟨r, hrr⟩ : ∃ r, size - 16 = r := ⟨_, rfl⟩
    rw [hrr] at HP HR
    have hr1 : 112 ≤ r ∧ r ≤ 4080 := by omega
    have HQ : Hid ((2 * blocks + r - 1).tdiv r = pagesF size blocks) := Lib.hid (by rw [HP.out]; exact Int.tdiv_eq_ediv_of_nonneg (by omega))
    obtain ⟨q, hq⟩ : ∃ q, pagesF size blocks = q := ⟨_, rfl⟩
    rw [hq] at HQ hp ⊢
    have e1 : IntKind.i64.wrap (2 * blocks) = 2 * blocks := IntWalk.i64_in _ (by omega)
    have e2 : IntKind.i64.wrap (2 * blocks + r) = 2 * blocks + r := IntWalk.i64_in _ (by omega)
    have e3 : IntKind.i64.wrap (2 * blocks + r - 1) = 2 * blocks + r - 1 := IntWalk.i64_in _ (by omega)
    have e4 : IntKind.i64.wrap q = q := IntWalk.i64_in _ (by omega)
    have e5 := HQ.out
    clear hE hr hrr hq B0 G0 HP HQ
    have hb0 : (0 : Int) ≤ blocks := by omega
    clear hp h
    subst h0
    go_enter Tryd.func24, Tryd.ntmps24
    go_wp2_with fail
    refine (HC.out _).mono ?_
    rintro e W1 ⟨rfl, hgg⟩
    have HB1 := Lib.hid (block_old HB0.out hgg)
    have HG1 := Lib.hid (grown_then HG0.out hgg)
    clear hgg HB0 HG0
    dsimp only
    have c0 : W1.cell? ⟨w.heap.size, 0, none⟩ = some (.int .i64 size) := by rw [cell_of_row _ _ _ _ _ _ HB1.out]; rfl
    go_wp2_with fail
    refine (HR.out _).mono ?_
    rintro e w2 ⟨rfl, hg⟩
    have HB2 := Lib.hid (block_old HB1.out hg)
    have HG2 := Lib.hid (grown_then HG1.out hg)
    clear hg HB1 HG1 c0
    dsimp only
    have c1 : w2.cell? ⟨w.heap.size, 1, none⟩ = some (.int .i64 blocks) := by rw [cell_of_row _ _ _ _ _ _ HB2.out]; rfl
    have hne : ¬ r = 0 := by omega
    go_wp2
    go_ret
    exact ⟨rfl, HG2.out⟩
  · have h0 : E ≠ 0 := by rw [← hE]; exact fun q => h ((geo_iff _ _).1 q)
    have q0 : (E != 0) = true := bne_iff_ne.2 h0
    rw [pages_no h]
    clear h hE h0
    go_enter Tryd.func24, Tryd.ntmps24
    go_wp2_with fail
    refine (HC.out _).mono ?_
    rintro e w1 ⟨rfl, hgg⟩
    have HG1 := Lib.hid (grown_then HG0.out hgg)
    clear hgg HB0 HG0 B0 G0
    dsimp only
    go_wp2
    go_ret
    exact ⟨rfl, HG1.out⟩

theorem rpage_any (size : Int) (N : Nat) (p : Int) (w : World) (hN : N ≤ 4096) (hp : 0 ≤ p ∧ p < 4294967296) :
    Calls Tryd.prog 40 #[.agg #[.int .i64 size, .int .i64 N], .int .u32 p] w fun e w' => e = .returned (.bool (decide (pageP (N : Int) p))) ∧ w.grownBy w' none := by
  have HG := Lib.hid (grown_alloc w (.cells #[.int .i64 size, .int .i64 (N : Int)] 25))
  have c1 : (w.alloc (.cells #[.int .i64 size, .int .i64 (N : Int)] 25)).cell? ⟨w.heap.size, 1, none⟩ = some (.int .i64 (N : Int)) := by rw [cell_of_row _ _ _ _ _ _ (heap_alloc_new w _)]; rfl
  have e1 : IntKind.u64.wrap (N : Int) = (N : Int) := u64n (by omega)
  have e2 := u64i hp
  by_cases h1 : 2 ≤ p
  · by_cases h2 : p < (N : Int)
    · have hd : decide (pageP (N : Int) p) = true := decide_eq_true ⟨h1, h2⟩
      have q1 : decide (2 ≤ p) = true := decide_eq_true h1
      have q2 : decide (p < (N : Int)) = true := decide_eq_true h2
      rw [hd]
      clear h1 h2 hd hp
      go_enter Tryd.func40, Tryd.ntmps40
      go_wp2
      go_ret
      exact ⟨rfl, HG.out⟩
    · have hd : decide (pageP (N : Int) p) = false := decide_eq_false (fun h => h2 h.2)
      have q1 : decide (2 ≤ p) = true := decide_eq_true h1
      have q2 : decide (p < (N : Int)) = false := decide_eq_false h2
      rw [hd]
      clear h1 h2 hd hp
      go_enter Tryd.func40, Tryd.ntmps40
      go_wp2
      go_ret
      exact ⟨rfl, HG.out⟩
  · have hd : decide (pageP (N : Int) p) = false := decide_eq_false (fun h => h1 h.1)
    have q1 : decide (2 ≤ p) = false := decide_eq_false h1
    rw [hd]
    clear h1 hd hp
    go_enter Tryd.func40, Tryd.ntmps40
    go_wp2
    go_ret
    exact ⟨rfl, HG.out⟩

/-- the first i pages may be -/
def PO (blocks root : Int) (l : List Int) (i : Nat) : Prop := pagesOk blocks root (l.take i)
theorem PO.next {blocks root : Int} {l : List Int} {i : Nat} (h : PO blocks root l i) (hi : i < l.length) (h1 : pageP blocks (l.getD i 0)) (h2 : l.getD i 0 ≠ root) (h3 : ∀ j, j < i → l.getD j 0 ≠ l.getD i 0) : PO blocks root l (i + 1) := by
  unfold PO pagesOk at *
  rw [(take_drop l i hi).1]
  refine ⟨fun p hp => ?_, ?_⟩
  · rcases List.mem_append.1 hp with hp | hp
    · exact h.1 p hp
    · rw [List.mem_singleton] at hp; rw [hp]; exact ⟨h1, h2⟩
  · rw [List.nodup_append]
    refine ⟨h.2, by simp, fun a ha b hb e => ?_⟩
    rw [List.mem_singleton] at hb
    obtain ⟨j, hj, hja⟩ := List.getElem_of_mem ha
    rw [List.length_take] at hj
    rw [List.getElem_take] at hja
    apply h3 j (by omega)
    rw [← hb, ← e, ← hja]
    simp [List.getD, show j < l.length by omega]
theorem PO.all {blocks root : Int} {l : List Int} (h : PO blocks root l l.length) : pagesOk blocks root l := by
  unfold PO at h
  rwa [List.take_of_length_le (Nat.le_refl _)] at h
theorem po_no {blocks root : Int} {l : List Int} {i : Nat} (hi : i < l.length) (h : ¬ pageP blocks (l.getD i 0) ∨ l.getD i 0 = root) : ¬ pagesOk blocks root l := fun hp => by
  have e : l.getD i 0 = l[i] := by simp [List.getD, hi]
  have h1 := hp.1 (l.getD i 0) (by rw [e]; exact List.getElem_mem hi)
  rcases h with h | h
  · exact h h1.1
  · exact h1.2 h
theorem po_twice {blocks root : Int} {l : List Int} {i j : Nat} (hi : i < l.length) (hj : j < i) (h : l.getD j 0 = l.getD i 0) : ¬ pagesOk blocks root l := fun hp => by
  have h2 := List.pairwise_iff_getElem.1 hp.2 j i (by omega) hi hj
  apply h2
  simpa [List.getD, hi, show j < l.length by omega] using h

set_option maxRecDepth 100000 in
set_option maxHeartbeats 8000000 in
theorem rcheck_sup (s : Sup) (a : Option Addr) (n c : Nat) (w : World) (hs : Ws.Seg w a n c s.pages) (ho : SupOk s) :
    Calls Tryd.prog 23 #[.agg #[.int .u64 s.gen, .int .i64 s.size, .int .i64 s.blocks, .int .u32 s.root, .slice a n c]] w fun e w' => e = .returned (.int .i64 (supE s)) ∧ w.grownBy w' none := by
  have HB0 := Lib.hid (SB.new w s a n c)
  have HG0 := Lib.hid (grown_alloc w (.cells #[.int .u64 s.gen, .int .i64 s.size, .int .i64 s.blocks, .int .u32 s.root, .slice a n c] 29))
  obtain ⟨W0, hW0⟩ : ∃ X, w.alloc (.cells #[.int .u64 s.gen, .int .i64 s.size, .int .i64 s.blocks, .int .u32 s.root, .slice a n c] 29) = X := ⟨_, rfl⟩
  rw [hW0] at HB0 HG0
  have HW : Hid (Ws.IsW s.pages) := Lib.hid (fun x hx => by have := ho.pages x hx; omega)
  have hro := ho.root
  have hgen := ho.gen
  have HL := Lib.hid hs.len
  have hle := hs.le
  have hcap := hs.cap
  unfold maxLen at hcap
  have HS := Lib.hid hs
  have HBAD : Hid (¬ Valid s → supE s = 2) := Lib.hid (fun h => by unfold supE; rw [if_neg h])
  have HGOOD : Hid (Valid s → supE s = if room s.size < 14 + 4 * (n : Int) then 3 else 0) := Lib.hid (fun h => by unfold supE; rw [if_pos h, HL.out])
  obtain ⟨V, hV⟩ : ∃ V, Valid s = V := ⟨_, rfl⟩
  have HVI : Hid (V ↔ GeoOk s.size s.blocks ∧ s.gen ≠ 0 ∧ (s.root = 0 ∨ pageP s.blocks s.root) ∧ (n : Int) = pagesF s.size s.blocks ∧ pagesOk s.blocks s.root s.pages) := Lib.hid (by rw [← hV, ← HL.out]; exact Iff.rfl)
  rw [hV] at HBAD HGOOD
  obtain ⟨R, hR⟩ : ∃ R, supE s = R := ⟨_, rfl⟩
  rw [hR] at HBAD HGOOD ⊢
  clear hV hR hs ho
  obtain ⟨gen, size, blocks, root, pages⟩ := s
  dsimp only at *
  obtain ⟨E, hE⟩ : ∃ E, geoE size blocks = E := ⟨_, rfl⟩
  have HCQ : Hid (∀ W, Calls Tryd.prog 39 #[.agg #[.int .i64 size, .int .i64 blocks]] W fun e w' => e = .returned (.int .i64 E) ∧ W.grownBy w' none) := Lib.hid (fun W => (rcheck_any size blocks W).mono fun e w' h => ⟨by rw [← hE]; exact h.1, h.2.grown⟩)
  have HPQ := Lib.hid (fun W => rpages_any size blocks W)
  have HGE : Hid (GeoOk size blocks ↔ E = 0) := Lib.hid (by rw [← hE]; exact (geo_iff size blocks).symm)
  clear hE
  obtain ⟨P, hP⟩ : ∃ P, pagesF size blocks = P := ⟨_, rfl⟩
  have HRM := Lib.hid (fun W => Fr.rroom_any size W)
  have HPB : Hid (GeoOk size blocks → P ≤ 74 ∧ Fr.room size ≤ 4080) := Lib.hid (fun h => ⟨by rw [← hP]; exact (pages_bounds h).2.1, by rw [geo_room h]; have := h.2.1; omega⟩)
  rw [hP] at HPQ HVI
  clear hP
  obtain ⟨rm, hrm⟩ : ∃ rm, Fr.room size = rm := ⟨_, rfl⟩
  rw [hrm] at HRM HPB HGOOD
  clear hrm
  obtain ⟨c0, c1, c2, c3, c4⟩ := HB0.out.gw
  by_cases q0 : E = 0
  case neg =>
    have e0 : (E != 0) = true := bne_iff_ne.2 q0
    have hR : R = 2 := HBAD.out (fun h => q0 (HGE.out.1 (HVI.out.1 h).1))
    clear q0
    go_enter Tryd.func23, Tryd.ntmps23
    go_upto_region 1 with (fail)
    refine wp_region_grow (by kernel_rfl) ?_
    repeat (go_big_quiet_step (first | (go_at_call 39; with_reducible exact Calls.grow_of (HCQ.out _)) | (go_at_call 24; with_reducible exact Calls.grow_of (HPQ.out _)) | (go_at_call 40; with_reducible exact Calls.grow_of (HPR.out _)) | fail))
    refine wpQuiet_nil ?_
    rintro _ ⟨pw, rfl⟩
    have HGF := Lib.hid (grown_then HG0.out pw.grown)
    have HB1 := Lib.hid (HB0.out.old pw.grown)
    clear c0 c1 c2 c3 c4
    subst hR
    go_wp2
    go_ret
    exact ⟨rfl, HGF.out⟩
  have hgeo : GeoOk size blocks := HGE.out.2 q0
  have e0 : (E != 0) = false := by rw [q0]; rfl
  by_cases q1 : gen = 0
  · have e1 : (gen == 0) = true := beq_iff_eq.2 q1
    have hR : R = 2 := HBAD.out (fun h => (HVI.out.1 h).2.1 q1)
    clear q0 q1 hgeo
    go_enter Tryd.func23, Tryd.ntmps23
    go_upto_region 1 with (fail)
    refine wp_region_grow (by kernel_rfl) ?_
    repeat (go_big_quiet_step (first | (go_at_call 39; with_reducible exact Calls.grow_of (HCQ.out _)) | (go_at_call 24; with_reducible exact Calls.grow_of (HPQ.out _)) | (go_at_call 40; with_reducible exact Calls.grow_of (HPR.out _)) | fail))
    refine wpQuiet_nil ?_
    rintro _ ⟨pw, rfl⟩
    have HGF := Lib.hid (grown_then HG0.out pw.grown)
    have HB1 := Lib.hid (HB0.out.old pw.grown)
    clear c0 c1 c2 c3 c4
    subst hR
    go_wp2
    go_ret
    exact ⟨rfl, HGF.out⟩
  have e1 : (gen == 0) = false := beq_eq_false_iff_ne.2 q1
  have hb : 8 ≤ blocks ∧ blocks ≤ 4096 := ⟨hgeo.2.2.2.1, hgeo.2.2.2.2⟩
  obtain ⟨N, rfl⟩ := Int.eq_ofNat_of_zero_le (show 0 ≤ blocks by omega)
  have HPG := Lib.hid (fun p W (h : 0 ≤ p ∧ p < 4294967296) => rpage_any size N p W (by omega) h)
  obtain ⟨pb, hpb⟩ : ∃ b, decide (pageP (N : Int) root) = b := ⟨_, rfl⟩
  have HPR : Hid (∀ W, Calls Tryd.prog 40 #[.agg #[.int .i64 size, .int .i64 N], .int .u32 root] W fun e w' => e = .returned (.bool pb) ∧ W.grownBy w' none) := Lib.hid (fun W => by have := HPG.out root W hro; rwa [hpb] at this)
  by_cases q2 : root ≠ 0 ∧ pb = false
  · have e2 : (root != 0) = true := bne_iff_ne.2 q2.1
    have hpf := q2.2
    have hR : R = 2 := HBAD.out (fun h => by
      rcases (HVI.out.1 h).2.2.1 with h1 | h1
      · exact q2.1 h1
      · rw [decide_eq_true h1, q2.2] at hpb; cases hpb)
    subst hpf
    clear q0 q1 q2 hgeo hb hpb
    go_enter Tryd.func23, Tryd.ntmps23
    go_upto_region 1 with (fail)
    refine wp_region_grow (by kernel_rfl) ?_
    repeat (go_big_quiet_step (first | (go_at_call 39; with_reducible exact Calls.grow_of (HCQ.out _)) | (go_at_call 24; with_reducible exact Calls.grow_of (HPQ.out _)) | (go_at_call 40; with_reducible exact Calls.grow_of (HPR.out _)) | fail))
    refine wpQuiet_nil ?_
    rintro _ ⟨pw, rfl⟩
    have HGF := Lib.hid (grown_then HG0.out pw.grown)
    have HB1 := Lib.hid (HB0.out.old pw.grown)
    clear c0 c1 c2 c3 c4
    subst hR
    go_wp2
    go_ret
    exact ⟨rfl, HGF.out⟩
  have hrt : root = 0 ∨ pageP (N : Int) root := by
    by_cases h : root = 0
    · exact .inl h
    · right
      cases pb with
      | true => exact of_decide_eq_true hpb
      | false => exact absurd ⟨h, rfl⟩ q2
  by_cases q3 : (n : Int) = P
  case neg =>
    have e3 : ((n : Int) != P) = true := bne_iff_ne.2 q3
    have hR : R = 2 := HBAD.out (fun h => q3 (HVI.out.1 h).2.2.2.1)
    rcases hrt with hr0 | hr0
    · have e2 : (root != 0) = false := by rw [hr0]; rfl
      clear q0 q1 q2 q3 hgeo hb hpb hr0
      go_enter Tryd.func23, Tryd.ntmps23
      go_upto_region 1 with (fail)
      refine wp_region_grow (by kernel_rfl) ?_
      repeat (go_big_quiet_step (first | (go_at_call 39; with_reducible exact Calls.grow_of (HCQ.out _)) | (go_at_call 24; with_reducible exact Calls.grow_of (HPQ.out _)) | (go_at_call 40; with_reducible exact Calls.grow_of (HPR.out _)) | fail))
      refine wpQuiet_nil ?_
      rintro _ ⟨pw, rfl⟩
      have HGF := Lib.hid (grown_then HG0.out pw.grown)
      have HB1 := Lib.hid (HB0.out.old pw.grown)
      clear c0 c1 c2 c3 c4
      subst hR
      go_wp2
      go_ret
      exact ⟨rfl, HGF.out⟩
    · have e2 : (root != 0) = true := bne_iff_ne.2 (by have := hr0.1; omega)
      obtain rfl : pb = true := by rw [← hpb]; exact decide_eq_true hr0
      clear q0 q1 q2 q3 hgeo hb hpb hr0
      go_enter Tryd.func23, Tryd.ntmps23
      go_upto_region 1 with (fail)
      refine wp_region_grow (by kernel_rfl) ?_
      repeat (go_big_quiet_step (first | (go_at_call 39; with_reducible exact Calls.grow_of (HCQ.out _)) | (go_at_call 24; with_reducible exact Calls.grow_of (HPQ.out _)) | (go_at_call 40; with_reducible exact Calls.grow_of (HPR.out _)) | fail))
      refine wpQuiet_nil ?_
      rintro _ ⟨pw, rfl⟩
      have HGF := Lib.hid (grown_then HG0.out pw.grown)
      have HB1 := Lib.hid (HB0.out.old pw.grown)
      clear c0 c1 c2 c3 c4
      subst hR
      go_wp2
      go_ret
      exact ⟨rfl, HGF.out⟩
  have e3 : ((n : Int) != P) = false := by rw [q3]; simp
  have HYES : Hid (pagesOk (N : Int) root pages → R = if rm < 14 + 4 * (n : Int) then 3 else 0) := Lib.hid (fun h => HGOOD.out (HVI.out.2 ⟨hgeo, q1, hrt, q3, h⟩))
  have HNO : Hid (¬ pagesOk (N : Int) root pages → R = 2) := Lib.hid (fun h => HBAD.out (fun hv => h (HVI.out.1 hv).2.2.2.2))
  have hn74 : n ≤ 74 ∧ rm ≤ 4080 := by have := HPB.out hgeo; omega
  rcases hrt with hr0 | hr0
  · have e2 : (root != 0) = false := by rw [hr0]; rfl
    clear q0 q1 q2 q3 hgeo hpb hr0 HVI HBAD HGOOD HPB
    go_enter Tryd.func23, Tryd.ntmps23
    go_upto_region 1 with (fail)
    refine wp_region_grow (by kernel_rfl) ?_
    repeat (go_big_quiet_step (first | (go_at_call 39; with_reducible exact Calls.grow_of (HCQ.out _)) | (go_at_call 24; with_reducible exact Calls.grow_of (HPQ.out _)) | (go_at_call 40; with_reducible exact Calls.grow_of (HPR.out _)) | fail))
    refine wpQuiet_nil ?_
    rintro _ ⟨pw, rfl⟩
    have HGF := Lib.hid (grown_then HG0.out pw.grown)
    have HB1 := Lib.hid (HB0.out.old pw.grown)
    clear c0 c1 c2 c3 c4
    obtain ⟨W1, hW1⟩ : ∃ X, X = pw.at_ := ⟨_, rfl⟩
    rw [← hW1] at HGF HB1 ⊢
    clear hW1 pw
    go_wp2
    go_loopw [3] (fun s3 wr => ∃ i : Nat, i ≤ n ∧ s3 = .int .i64 i ∧ Hid (PO (N : Int) root pages i) ∧ Hid (w.grownBy wr none) ∧ Hid (SB wr w.heap.size ⟨gen, size, N, root, pages⟩ a n c)) (fun s3 _ => n - (intOf s3).toNat)
    case atStart => exact ⟨0, Nat.zero_le _, rfl, Lib.hid ⟨(fun p hp => by cases hp), List.Pairwise.nil⟩, HGF, HB1⟩
    case round =>
      clear HGF HB1
      obtain ⟨i, hi2, rfl, HPO, HG, HB⟩ := hrel
      obtain ⟨b0, b1, b2, b3, b4⟩ := HB.out.cells
      by_cases hlt : i < n
      · have hq : decide (i < n) = true := decide_eq_true hlt
        have hil : i < pages.length := by rw [HL.out]; exact hlt
        obtain ⟨ga, oa, ha, hc⟩ := (HS.out.grown HG.out).addr (by omega)
        have hx0 := bd HW.out i
        obtain ⟨x, hx⟩ : ∃ x, pages.getD i 0 = x := ⟨_, rfl⟩
        have HX := Lib.hid hx
        rw [hx] at hx0
        have HCI : Hid (∀ j, j < n → ∀ W, wr.grownBy W none → W.cell? ⟨ga, oa + j, none⟩ = some (.int .u32 (pages.getD j 0))) := Lib.hid (fun j hj W hW => hW.cell (hc j hj) (by simp))
        subst ha
        obtain ⟨xb, hxb⟩ : ∃ b, decide (pageP (N : Int) x) = b := ⟨_, rfl⟩
        have HPX : Hid (∀ W, Calls Tryd.prog 40 #[.agg #[.int .i64 size, .int .i64 N], .int .u32 x] W fun e w' => e = .returned (.bool xb) ∧ W.grownBy w' none) := Lib.hid (fun W => by have := HPG.out x W hx0; rwa [hxb] at this)
        obtain ⟨k0, k1, k2, k3, k4⟩ := HB.out.gw
        dsimp only at k0 k1 k2 k3 k4
        have k5 : ∀ q : Gw wr, q.at_.cell? ⟨ga, oa + i, none⟩ = some (.int .u32 x) := fun q => by have := HCI.out i hlt q.at_ q.grown; rwa [hx] at this
        clear hc hx
        go_upto_region 6 with (fail)
        clear b0 b1 b2 b3 b4
        cases xb with
        | false =>
          have hR : R = 2 := HNO.out (po_no hil (.inl (by rw [HX.out]; exact of_decide_eq_false hxb)))
          refine wp_region_grow (by kernel_rfl) ?_
          repeat (go_big_quiet_step (first | (go_at_call 40; with_reducible exact Calls.grow_of (HPX.out _)) | fail))
          refine wpQuiet_nil ?_
          rintro _ ⟨pw, rfl⟩
          have HGF := Lib.hid (grown_then HG.out pw.grown)
          clear k0 k1 k2 k3 k4 k5
          subst hR
          go_wp2
          go_ret
          exact ⟨rfl, HGF.out⟩
        | true =>
          have hpg := of_decide_eq_true hxb
          by_cases hrx : x = root
          · have rb : (x == root) = true := beq_iff_eq.2 hrx
            have hR : R = 2 := HNO.out (po_no hil (.inr (by rw [HX.out]; exact hrx)))
            clear hrx
            refine wp_region_grow (by kernel_rfl) ?_
            repeat (go_big_quiet_step (first | (go_at_call 40; with_reducible exact Calls.grow_of (HPX.out _)) | fail))
            refine wpQuiet_nil ?_
            rintro _ ⟨pw, rfl⟩
            have HGF := Lib.hid (grown_then HG.out pw.grown)
            clear k0 k1 k2 k3 k4 k5
            subst hR
            go_wp2
            go_ret
            exact ⟨rfl, HGF.out⟩
          · have rb : (x == root) = false := beq_eq_false_iff_ne.2 hrx
            refine wp_region_grow (by kernel_rfl) ?_
            repeat (go_big_quiet_step (first | (go_at_call 40; with_reducible exact Calls.grow_of (HPX.out _)) | fail))
            refine wpQuiet_nil ?_
            rintro _ ⟨pw, rfl⟩
            have HGF := Lib.hid (grown_then HG.out pw.grown)
            have HB6 := Lib.hid (HB.out.old pw.grown)
            have HC6 : Hid (∀ j, j < n → ∀ W, pw.at_.grownBy W none → W.cell? ⟨ga, oa + j, none⟩ = some (.int .u32 (pages.getD j 0))) := Lib.hid (fun j hj W hW => HCI.out j hj W (grown_then pw.grown hW))
            clear k0 k1 k2 k3 k4 k5 HG HB HCI rb
            obtain ⟨W6, hW6⟩ : ∃ X, X = pw.at_ := ⟨_, rfl⟩
            rw [← hW6] at HGF HB6 HC6 ⊢
            clear hW6 pw
            go_wp2
            go_loopw [4] (fun s4 wr2 => ∃ j : Nat, j ≤ i ∧ s4 = .int .i64 j ∧ Hid (∀ j2, j2 < j → pages.getD j2 0 ≠ x) ∧ Hid (W6.grownBy wr2 none)) (fun s4 _ => i - (intOf s4).toNat)
            case atStart => exact ⟨0, Nat.zero_le _, rfl, Lib.hid (fun j2 h => absurd h (by omega)), Lib.hid (grown_refl _)⟩
            case round =>
              obtain ⟨j, hj2, rfl, HNE, HG2⟩ := hrel
              by_cases hjl : j < i
              · have hqj : decide (j < i) = true := decide_eq_true hjl
                obtain ⟨y, hy⟩ : ∃ y, pages.getD j 0 = y := ⟨_, rfl⟩
                obtain ⟨k0, k1, k2, k3, k4⟩ := (HB6.out.old HG2.out).gw
                dsimp only at k0 k1 k2 k3 k4
                have k5 : ∀ q : Gw wr, q.at_.cell? ⟨ga, oa + i, none⟩ = some (.int .u32 x) := fun q => by have := HC6.out i hlt q.at_ (grown_then HG2.out q.grown); rwa [HX.out] at this
                have k6 : ∀ q : Gw wr, q.at_.cell? ⟨ga, oa + j, none⟩ = some (.int .u32 y) := fun q => by have := HC6.out j (by omega) q.at_ (grown_then HG2.out q.grown); rwa [hy] at this
                have hjn : j < n := by omega
                go_upto_region 11 with (fail)
                by_cases hyx : y = x
                · have yb : (y == x) = true := beq_iff_eq.2 hyx
                  have hR : R = 2 := HNO.out (po_twice hil hjl (by rw [HX.out, hy]; exact hyx))
                  clear hyx
                  refine wp_region_grow (by kernel_rfl) ?_
                  repeat (go_big_quiet_step (fail))
                  refine wpQuiet_nil ?_
                  rintro _ ⟨pw, rfl⟩
                  have HGF2 := Lib.hid (grown_then HGF.out (grown_then HG2.out pw.grown))
                  clear k0 k1 k2 k3 k4 k5 k6
                  subst hR
                  go_wp2
                  go_ret
                  exact ⟨rfl, HGF2.out⟩
                · have yb : (y == x) = false := beq_eq_false_iff_ne.2 hyx
                  refine wp_region_grow (by kernel_rfl) ?_
                  repeat (go_big_quiet_step (fail))
                  refine wpQuiet_nil ?_
                  rintro _ ⟨pw, rfl⟩
                  have HG3 := Lib.hid (grown_then HG2.out pw.grown)
                  have HN3 : Hid (∀ j2, j2 < j + 1 → pages.getD j2 0 ≠ x) := Lib.hid (fun j2 h => by
                    by_cases h2 : j2 = j
                    · rw [h2, hy]; exact hyx
                    · exact HNE.out j2 (by omega))
                  clear k0 k1 k2 k3 k4 k5 k6
                  go_wp2
                  go_roundw
                  case rel => exact ⟨j + 1, by omega, by go_num, HN3, HG3⟩
                  case measure => simp [intOf]; omega
              · have hqj : decide (j < i) = false := decide_eq_false hjl
                obtain rfl : j = i := by omega
                have HP2 : Hid (PO (N : Int) root pages (j + 1)) := Lib.hid (HPO.out.next hil (by rw [HX.out]; exact hpg) (by rw [HX.out]; exact hrx) (by rw [HX.out]; exact HNE.out))
                have HG7 := Lib.hid (grown_then HGF.out HG2.out)
                have HB7 := Lib.hid (HB6.out.old HG2.out)
                clear HGF HB6 HC6 HPO HNE HG2
                go_wp2
                go_roundw
                case rel => exact ⟨j + 1, by omega, by go_num, HP2, HG7, HB7⟩
                case measure => simp [intOf]; omega
      · have hq : decide (i < n) = false := decide_eq_false hlt
        obtain rfl : i = n := by omega
        have hall := HYES.out (PO.all (by rw [HL.out]; exact HPO.out))
        obtain ⟨k0, k1, k2, k3, k4⟩ := HB.out.gw
        dsimp only at k0 k1 k2 k3 k4
        have e5 : IntKind.i64.wrap (4 * (i : Int)) = 4 * (i : Int) := IntWalk.i64_in _ (by omega)
        have e6 : IntKind.i64.wrap (14 + 4 * (i : Int)) = 14 + 4 * (i : Int) := IntWalk.i64_in _ (by omega)
        go_upto_region 13 with (fail)
        by_cases h3 : rm < 14 + 4 * (i : Int)
        · have e7 : decide (rm < 14 + 4 * (i : Int)) = true := decide_eq_true h3
          rw [if_pos h3] at hall
          clear h3
          refine wp_region_grow (by kernel_rfl) ?_
          repeat (go_big_quiet_step (first | (go_at_call 26; with_reducible exact Calls.grow_of (HRM.out _)) | fail))
          refine wpQuiet_nil ?_
          rintro _ ⟨pw, rfl⟩
          have HGF := Lib.hid (grown_then HG.out pw.grown)
          clear k0 k1 k2 k3 k4
          subst hall
          go_wp2
          go_ret
          exact ⟨rfl, HGF.out⟩
        · have e7 : decide (rm < 14 + 4 * (i : Int)) = false := decide_eq_false h3
          rw [if_neg h3] at hall
          clear h3
          refine wp_region_grow (by kernel_rfl) ?_
          repeat (go_big_quiet_step (first | (go_at_call 26; with_reducible exact Calls.grow_of (HRM.out _)) | fail))
          refine wpQuiet_nil ?_
          rintro _ ⟨pw, rfl⟩
          have HGF := Lib.hid (grown_then HG.out pw.grown)
          clear k0 k1 k2 k3 k4
          subst hall
          go_wp2
          go_ret
          exact ⟨rfl, HGF.out⟩
  · have e2 : (root != 0) = true := bne_iff_ne.2 (by have := hr0.1; omega)
    obtain rfl : pb = true := by rw [← hpb]; exact decide_eq_true hr0
    clear q0 q1 q2 q3 hgeo hpb hr0 HVI HBAD HGOOD HPB
    go_enter Tryd.func23, Tryd.ntmps23
    go_upto_region 1 with (fail)
    refine wp_region_grow (by kernel_rfl) ?_
    repeat (go_big_quiet_step (first | (go_at_call 39; with_reducible exact Calls.grow_of (HCQ.out _)) | (go_at_call 24; with_reducible exact Calls.grow_of (HPQ.out _)) | (go_at_call 40; with_reducible exact Calls.grow_of (HPR.out _)) | fail))
    refine wpQuiet_nil ?_
    rintro _ ⟨pw, rfl⟩
    have HGF := Lib.hid (grown_then HG0.out pw.grown)
    have HB1 := Lib.hid (HB0.out.old pw.grown)
    clear c0 c1 c2 c3 c4
    obtain ⟨W1, hW1⟩ : ∃ X, X = pw.at_ := ⟨_, rfl⟩
    rw [← hW1] at HGF HB1 ⊢
    clear hW1 pw
    go_wp2
    go_loopw [3] (fun s3 wr => ∃ i : Nat, i ≤ n ∧ s3 = .int .i64 i ∧ Hid (PO (N : Int) root pages i) ∧ Hid (w.grownBy wr none) ∧ Hid (SB wr w.heap.size ⟨gen, size, N, root, pages⟩ a n c)) (fun s3 _ => n - (intOf s3).toNat)
    case atStart => exact ⟨0, Nat.zero_le _, rfl, Lib.hid ⟨(fun p hp => by cases hp), List.Pairwise.nil⟩, HGF, HB1⟩
    case round =>
      clear HGF HB1
      obtain ⟨i, hi2, rfl, HPO, HG, HB⟩ := hrel
      obtain ⟨b0, b1, b2, b3, b4⟩ := HB.out.cells
      by_cases hlt : i < n
      · have hq : decide (i < n) = true := decide_eq_true hlt
        have hil : i < pages.length := by rw [HL.out]; exact hlt
        obtain ⟨ga, oa, ha, hc⟩ := (HS.out.grown HG.out).addr (by omega)
        have hx0 := bd HW.out i
        obtain ⟨x, hx⟩ : ∃ x, pages.getD i 0 = x := ⟨_, rfl⟩
        have HX := Lib.hid hx
        rw [hx] at hx0
        have HCI : Hid (∀ j, j < n → ∀ W, wr.grownBy W none → W.cell? ⟨ga, oa + j, none⟩ = some (.int .u32 (pages.getD j 0))) := Lib.hid (fun j hj W hW => hW.cell (hc j hj) (by simp))
        subst ha
        obtain ⟨xb, hxb⟩ : ∃ b, decide (pageP (N : Int) x) = b := ⟨_, rfl⟩
        have HPX : Hid (∀ W, Calls Tryd.prog 40 #[.agg #[.int .i64 size, .int .i64 N], .int .u32 x] W fun e w' => e = .returned (.bool xb) ∧ W.grownBy w' none) := Lib.hid (fun W => by have := HPG.out x W hx0; rwa [hxb] at this)
        obtain ⟨k0, k1, k2, k3, k4⟩ := HB.out.gw
        dsimp only at k0 k1 k2 k3 k4
        have k5 : ∀ q : Gw wr, q.at_.cell? ⟨ga, oa + i, none⟩ = some (.int .u32 x) := fun q => by have := HCI.out i hlt q.at_ q.grown; rwa [hx] at this
        clear hc hx
        go_upto_region 6 with (fail)
        clear b0 b1 b2 b3 b4
        cases xb with
        | false =>
          have hR : R = 2 := HNO.out (po_no hil (.inl (by rw [HX.out]; exact of_decide_eq_false hxb)))
          refine wp_region_grow (by kernel_rfl) ?_
          repeat (go_big_quiet_step (first | (go_at_call 40; with_reducible exact Calls.grow_of (HPX.out _)) | fail))
          refine wpQuiet_nil ?_
          rintro _ ⟨pw, rfl⟩
          have HGF := Lib.hid (grown_then HG.out pw.grown)
          clear k0 k1 k2 k3 k4 k5
          subst hR
          go_wp2
          go_ret
          exact ⟨rfl, HGF.out⟩
        | true =>
          have hpg := of_decide_eq_true hxb
          by_cases hrx : x = root
          · have rb : (x == root) = true := beq_iff_eq.2 hrx
            have hR : R = 2 := HNO.out (po_no hil (.inr (by rw [HX.out]; exact hrx)))
            clear hrx
            refine wp_region_grow (by kernel_rfl) ?_
            repeat (go_big_quiet_step (first | (go_at_call 40; with_reducible exact Calls.grow_of (HPX.out _)) | fail))
            refine wpQuiet_nil ?_
            rintro _ ⟨pw, rfl⟩
            have HGF := Lib.hid (grown_then HG.out pw.grown)
            clear k0 k1 k2 k3 k4 k5
            subst hR
            go_wp2
            go_ret
            exact ⟨rfl, HGF.out⟩
          · have rb : (x == root) = false := beq_eq_false_iff_ne.2 hrx
            refine wp_region_grow (by kernel_rfl) ?_
            repeat (go_big_quiet_step (first | (go_at_call 40; with_reducible exact Calls.grow_of (HPX.out _)) | fail))
            refine wpQuiet_nil ?_
            rintro _ ⟨pw, rfl⟩
            have HGF := Lib.hid (grown_then HG.out pw.grown)
            have HB6 := Lib.hid (HB.out.old pw.grown)
            have HC6 : Hid (∀ j, j < n → ∀ W, pw.at_.grownBy W none → W.cell? ⟨ga, oa + j, none⟩ = some (.int .u32 (pages.getD j 0))) := Lib.hid (fun j hj W hW => HCI.out j hj W (grown_then pw.grown hW))
            clear k0 k1 k2 k3 k4 k5 HG HB HCI rb
            obtain ⟨W6, hW6⟩ : ∃ X, X = pw.at_ := ⟨_, rfl⟩
            rw [← hW6] at HGF HB6 HC6 ⊢
            clear hW6 pw
            go_wp2
            go_loopw [4] (fun s4 wr2 => ∃ j : Nat, j ≤ i ∧ s4 = .int .i64 j ∧ Hid (∀ j2, j2 < j → pages.getD j2 0 ≠ x) ∧ Hid (W6.grownBy wr2 none)) (fun s4 _ => i - (intOf s4).toNat)
            case atStart => exact ⟨0, Nat.zero_le _, rfl, Lib.hid (fun j2 h => absurd h (by omega)), Lib.hid (grown_refl _)⟩
            case round =>
              obtain ⟨j, hj2, rfl, HNE, HG2⟩ := hrel
              by_cases hjl : j < i
              · have hqj : decide (j < i) = true := decide_eq_true hjl
                obtain ⟨y, hy⟩ : ∃ y, pages.getD j 0 = y := ⟨_, rfl⟩
                obtain ⟨k0, k1, k2, k3, k4⟩ := (HB6.out.old HG2.out).gw
                dsimp only at k0 k1 k2 k3 k4
                have k5 : ∀ q : Gw wr, q.at_.cell? ⟨ga, oa + i, none⟩ = some (.int .u32 x) := fun q => by have := HC6.out i hlt q.at_ (grown_then HG2.out q.grown); rwa [HX.out] at this
                have k6 : ∀ q : Gw wr, q.at_.cell? ⟨ga, oa + j, none⟩ = some (.int .u32 y) := fun q => by have := HC6.out j (by omega) q.at_ (grown_then HG2.out q.grown); rwa [hy] at this
                have hjn : j < n := by omega
                go_upto_region 11 with (fail)
                by_cases hyx : y = x
                · have yb : (y == x) = true := beq_iff_eq.2 hyx
                  have hR : R = 2 := HNO.out (po_twice hil hjl (by rw [HX.out, hy]; exact hyx))
                  clear hyx
                  refine wp_region_grow (by kernel_rfl) ?_
                  repeat (go_big_quiet_step (fail))
                  refine wpQuiet_nil ?_
                  rintro _ ⟨pw, rfl⟩
                  have HGF2 := Lib.hid (grown_then HGF.out (grown_then HG2.out pw.grown))
                  clear k0 k1 k2 k3 k4 k5 k6
                  subst hR
                  go_wp2
                  go_ret
                  exact ⟨rfl, HGF2.out⟩
                · have yb : (y == x) = false := beq_eq_false_iff_ne.2 hyx
                  refine wp_region_grow (by kernel_rfl) ?_
                  repeat (go_big_quiet_step (fail))
                  refine wpQuiet_nil ?_
                  rintro _ ⟨pw, rfl⟩
                  have HG3 := Lib.hid (grown_then HG2.out pw.grown)
                  have HN3 : Hid (∀ j2, j2 < j + 1 → pages.getD j2 0 ≠ x) := Lib.hid (fun j2 h => by
                    by_cases h2 : j2 = j
                    · rw [h2, hy]; exact hyx
                    · exact HNE.out j2 (by omega))
                  clear k0 k1 k2 k3 k4 k5 k6
                  go_wp2
                  go_roundw
                  case rel => exact ⟨j + 1, by omega, by go_num, HN3, HG3⟩
                  case measure => simp [intOf]; omega
              · have hqj : decide (j < i) = false := decide_eq_false hjl
                obtain rfl : j = i := by omega
                have HP2 : Hid (PO (N : Int) root pages (j + 1)) := Lib.hid (HPO.out.next hil (by rw [HX.out]; exact hpg) (by rw [HX.out]; exact hrx) (by rw [HX.out]; exact HNE.out))
                have HG7 := Lib.hid (grown_then HGF.out HG2.out)
                have HB7 := Lib.hid (HB6.out.old HG2.out)
                clear HGF HB6 HC6 HPO HNE HG2
                go_wp2
                go_roundw
                case rel => exact ⟨j + 1, by omega, by go_num, HP2, HG7, HB7⟩
                case measure => simp [intOf]; omega
      · have hq : decide (i < n) = false := decide_eq_false hlt
        obtain rfl : i = n := by omega
        have hall := HYES.out (PO.all (by rw [HL.out]; exact HPO.out))
        obtain ⟨k0, k1, k2, k3, k4⟩ := HB.out.gw
        dsimp only at k0 k1 k2 k3 k4
        have e5 : IntKind.i64.wrap (4 * (i : Int)) = 4 * (i : Int) := IntWalk.i64_in _ (by omega)
        have e6 : IntKind.i64.wrap (14 + 4 * (i : Int)) = 14 + 4 * (i : Int) := IntWalk.i64_in _ (by omega)
        go_upto_region 13 with (fail)
        by_cases h3 : rm < 14 + 4 * (i : Int)
        · have e7 : decide (rm < 14 + 4 * (i : Int)) = true := decide_eq_true h3
          rw [if_pos h3] at hall
          clear h3
          refine wp_region_grow (by kernel_rfl) ?_
          repeat (go_big_quiet_step (first | (go_at_call 26; with_reducible exact Calls.grow_of (HRM.out _)) | fail))
          refine wpQuiet_nil ?_
          rintro _ ⟨pw, rfl⟩
          have HGF := Lib.hid (grown_then HG.out pw.grown)
          clear k0 k1 k2 k3 k4
          subst hall
          go_wp2
          go_ret
          exact ⟨rfl, HGF.out⟩
        · have e7 : decide (rm < 14 + 4 * (i : Int)) = false := decide_eq_false h3
          rw [if_neg h3] at hall
          clear h3
          refine wp_region_grow (by kernel_rfl) ?_
          repeat (go_big_quiet_step (first | (go_at_call 26; with_reducible exact Calls.grow_of (HRM.out _)) | fail))
          refine wpQuiet_nil ?_
          rintro _ ⟨pw, rfl⟩
          have HGF := Lib.hid (grown_then HG.out pw.grown)
          clear k0 k1 k2 k3 k4
          subst hall
          go_wp2
          go_ret
          exact ⟨rfl, HGF.out⟩
end Go.Proofs.YtfojkglindpjjaaDoor.Su
namespace Go.Proofs.YtfojkglindpjjaaDoor.Su
open Go.RowKit Bs Dv Gr
open Oct (putB)
open Ref1 (GrowB)
open Fr (putF FmOk strE)

set_option maxRecDepth 100000 in
set_option maxHeartbeats 4000000 in
theorem rput_sup (s : Sup) (a : Option Addr) (n c : Nat) (w : World) (hs : Ws.Seg w a n c s.pages) (ho : SupOk s) :
    Calls Tryd.prog 20 #[.agg #[.int .u64 s.gen, .int .i64 s.size, .int .i64 s.blocks, .int .u32 s.root, .slice a n c]] w fun e w' => e = strE (putS s) ∧ w.grownBy w' none := by
  have HB0 := Lib.hid (SB.new w s a n c)
  have HG0 := Lib.hid (grown_alloc w (.cells #[.int .u64 s.gen, .int .i64 s.size, .int .i64 s.blocks, .int .u32 s.root, .slice a n c] 29))
  obtain ⟨W0, hW0⟩ : ∃ X, w.alloc (.cells #[.int .u64 s.gen, .int .i64 s.size, .int .i64 s.blocks, .int .u32 s.root, .slice a n c] 29) = X := ⟨_, rfl⟩
  rw [hW0] at HB0 HG0
  have hwl : w.heap.size < W0.heap.size := by rw [← hW0]; simp
  have HC := Lib.hid (rcheck_sup s a n c W0 (hs.grown HG0.out) ho)
  obtain ⟨q0, q1, q2, q3, q4⟩ := HB0.out.cells
  obtain ⟨E, hE⟩ : ∃ E, supE s = E := ⟨_, rfl⟩
  rw [hE] at HC
  by_cases h0 : E = 0
  · have hv := (sup_ok (hE.trans h0)).1
    have hg := hv.1
    unfold GeoOk at hg
    have hn : n ≤ 74 := by
      have h1 := hv.2.2.2.1
      have h2 := pages_bounds hv.1
      rw [hs.len] at h1
      omega
    have HPS : Hid (putS s = putF s.size (1, s.gen, dataS s)) := Lib.hid (if_neg (fun h => h (hE.trans h0)))
    have hfm : FmOk (1, s.gen, dataS s) := ⟨⟨(by show (0 : Int) ≤ 1; decide), (by show (1 : Int) < 256; decide)⟩, ho.gen, data_isB s⟩
    have HPQ := Lib.hid (fun W => Fr.rput_any s.size (1, s.gen, dataS s) W hfm)
    have e1 := u64i (v := s.size) (by omega)
    have e2 := u64i (v := s.blocks) (by omega)
    have e3 := u64i ho.root
    have e4 := u64n (n := n) (by omega)
    have hro := ho.root
    have b1 : 0 ≤ s.size ∧ s.size < 18446744073709551616 := by omega
    have b2 : 0 ≤ s.blocks ∧ s.blocks < 18446744073709551616 := by omega
    have HW : Hid (Ws.IsW s.pages) := Lib.hid (fun x hx => by have := ho.pages x hx; omega)
    have HD : Hid (dataS s = putB 4 s.size ++ putB 4 s.blocks ++ putB 4 s.root ++ putB 2 (n : Int) ++ fours s.pages) := Lib.hid (by unfold dataS; rw [hs.len]; simp only [List.append_assoc])
    have HL := Lib.hid hs.len
    have hle := hs.le
    have hcap := hs.cap
    unfold maxLen at hcap
    have HS := Lib.hid hs
    subst h0
    clear hs ho hE hv hg hfm
    go_enter Tryd.func20, Tryd.ntmps20
    go_wp2_with fail
    refine HC.out.mono ?_
    rintro e w1 ⟨rfl, hg⟩
    have HG1 := Lib.hid (grown_then HG0.out hg)
    have HB1 := Lib.hid (HB0.out.old hg)
    obtain ⟨d0, d1, d2, d3, d4⟩ := HB1.out.cells
    have O1 : Hid (w1.ownsRow w1.heap.size 5 1 (.slice none 0 0) 0 (([] : List Int).map (Value.int .u8))) := Lib.hid ⟨rfl, .inl ⟨rfl, rfl⟩⟩
    have D1 : Hid (Below w1.heap.size w1 w1) := Lib.hid (Below.refl _ w1)
    clear hg q0 q1 q2 q3 q4 HC HG0 HB0
    dsimp only
    go_wp2_with fail
    refine (Ref1.rput_any w1.heap.size (.slice none 0 0) 0 _ s.size 4 w1 O1.out D1.out.size b1.1 b1.2 (by decide) (by decide) (by decide)).mono ?_
    rintro e w2 ⟨g2, c2, rfl, hown, hbb⟩
    have O2 : Hid (w2.ownsRow w1.heap.size 5 1 (.slice (some ⟨g2, 0, none⟩) 4 c2) 4 ((putB 4 s.size).map (Value.int .u8))) := Lib.hid hown
    have D2 := Lib.hid (D1.out.trans hbb)
    have HB2 := Lib.hid (HB1.out.old (below_grown D2.out))
    clear d0 d1 d2 d3 d4 O1 D1 hown hbb
    obtain ⟨d0, d1, d2, d3, d4⟩ := HB2.out.cells
    dsimp only
    go_wp2_with fail
    refine (Ref1.rput_any w1.heap.size _ 4 _ s.blocks 4 w2 O2.out D2.out.size b2.1 b2.2 (by decide) (by decide) (by decide)).mono ?_
    rintro e w3 ⟨g3, c3, rfl, hown, hbb⟩
    have O3 : Hid (w3.ownsRow w1.heap.size 5 1 (.slice (some ⟨g3, 0, none⟩) 8 c3) 8 ((putB 4 s.size ++ putB 4 s.blocks).map (Value.int .u8))) := Lib.hid hown
    have D3 := Lib.hid (D2.out.trans hbb)
    have HB3 := Lib.hid (HB1.out.old (below_grown D3.out))
    clear d0 d1 d2 d3 d4 O2 D2 hown hbb
    obtain ⟨d0, d1, d2, d3, d4⟩ := HB3.out.cells
    dsimp only
    go_wp2_with fail
    refine (Ref1.rput_any w1.heap.size _ 8 _ s.root 4 w3 O3.out D3.out.size hro.1 (by omega) (by decide) (by decide) (by decide)).mono ?_
    rintro e w4 ⟨g4, c4, rfl, hown, hbb⟩
    have O4 : Hid (w4.ownsRow w1.heap.size 5 1 (.slice (some ⟨g4, 0, none⟩) 12 c4) 12 ((putB 4 s.size ++ putB 4 s.blocks ++ putB 4 s.root).map (Value.int .u8))) := Lib.hid hown
    have D4 := Lib.hid (D3.out.trans hbb)
    have HB4 := Lib.hid (HB1.out.old (below_grown D4.out))
    clear d0 d1 d2 d3 d4 O3 D3 hown hbb
    obtain ⟨d0, d1, d2, d3, d4⟩ := HB4.out.cells
    dsimp only
    go_wp2_with fail
    refine (Ref1.rput_any w1.heap.size _ 12 _ (n : Int) 2 w4 O4.out D4.out.size (by omega) (by omega) (by decide) (by decide) (by decide)).mono ?_
    rintro e w5 ⟨g5, c5, rfl, hown, hbb⟩
    have O5 : Hid (w5.ownsRow w1.heap.size 5 1 (.slice (some ⟨g5, 0, none⟩) 14 c5) 14 ((putB 4 s.size ++ putB 4 s.blocks ++ putB 4 s.root ++ putB 2 (n : Int)).map (Value.int .u8))) := Lib.hid hown
    have D5 := Lib.hid (D4.out.trans hbb)
    have HB5 := Lib.hid (HB1.out.old (below_grown D5.out))
    clear d0 d1 d2 d3 d4 O4 D4 hown hbb
    obtain ⟨d0, d1, d2, d3, d4⟩ := HB5.out.cells
    dsimp only
    go_wp2
    clear d0 d1 d2 d3 d4
    go_loopw [5, 6] (fun s5 s6 wr => ∃ (k : Nat) (V : Value), k ≤ n ∧ s6 = .int .i64 k ∧ V = s5 ∧ Hid (wr.ownsRow w1.heap.size 5 1 V (14 + 4 * k) ((putB 4 s.size ++ putB 4 s.blocks ++ putB 4 s.root ++ putB 2 (n : Int) ++ fours (s.pages.take k)).map (Value.int .u8))) ∧ Hid (Below w1.heap.size w1 wr)) (fun _ s6 _ => n - (intOf s6).toNat)
    case atStart => exact ⟨0, _, Nat.zero_le _, rfl, rfl, by rw [List.take_zero]; show Hid (w5.ownsRow _ _ _ _ _ ((_ ++ []).map _)); rw [List.append_nil]; exact O5, D5⟩
    case round =>
      clear O5 D5
      obtain ⟨k, V, hk, rfl, rfl, HO, HD1⟩ := hrel
      have HBk : Hid (SB wr w.heap.size s a n c) := Lib.hid (HB1.out.old (below_grown HD1.out))
      obtain ⟨d0, d1, d2, d3, d4⟩ := HBk.out.cells
      by_cases hlt : k < n
      · have hq : decide (k < n) = true := decide_eq_true hlt
        obtain ⟨ga, oa, ha, hc⟩ := (HS.out.grown (grown_then HG1.out (below_grown HD1.out))).addr (by omega)
        have hck := hc k hlt
        have hp := bd HW.out k
        have HF4 := Lib.hid (fours_take s.pages k (by rw [HL.out]; exact hlt))
        obtain ⟨x, hx⟩ : ∃ x, s.pages.getD k 0 = x := ⟨_, rfl⟩
        rw [hx] at hck hp HF4
        subst ha
        have e5 := u64i hp
        have HP := Lib.hid (Ref1.rput_any w1.heap.size V (14 + 4 * k) _ x 4 wr HO.out HD1.out.size hp.1 (by omega) (by decide) (by decide) (by omega))
        clear hc hx
        go_wp2_with fail
        refine HP.out.mono ?_
        rintro e w6 ⟨g6, c6, rfl, hown, hbb⟩
        have O6 : Hid (w6.ownsRow w1.heap.size 5 1 (.slice (some ⟨g6, 0, none⟩) (14 + 4 * k + 4) c6) (14 + 4 * (k + 1)) ((putB 4 s.size ++ putB 4 s.blocks ++ putB 4 s.root ++ putB 2 (n : Int) ++ fours (s.pages.take (k + 1))).map (Value.int .u8))) := Lib.hid (by rw [HF4.out, ← List.append_assoc]; exact hown)
        have D6 := Lib.hid (HD1.out.trans hbb)
        clear hown hbb HP HO HD1 HBk d0 d1 d2 d3 d4 hck
        dsimp only
        go_wp2
        go_roundw
        case rel => exact ⟨k + 1, _, by omega, by go_num, rfl, O6, D6⟩
        case measure => simp [intOf]; omega
      · have hq : decide (k < n) = false := decide_eq_false hlt
        obtain rfl : k = n := by omega
        obtain ⟨g', c', rfl⟩ := own_shape HO.out (by omega)
        have hown := HO.out
        rw [List.take_of_length_le (by rw [HL.out]; exact Nat.le_refl _), ← HD.out] at hown
        have hcv := conv_any g' 0 (14 + 4 * k) c' (dataS s) wr (Reg.own hown) (by rw [data_len, HL.out])
        have GF := Lib.hid (grown_then HG1.out (below_grown HD1.out))
        obtain ⟨⟨QB, QE⟩, hp⟩ : ∃ r, putF s.size (1, s.gen, dataS s) = r := ⟨_, rfl⟩
        rw [hp] at HPQ HPS
        unfold strE at HPQ
        dsimp only at HPQ
        obtain ⟨S, hS⟩ : ∃ S, strOfNums (dataS s) = S := ⟨_, rfl⟩
        rw [hS] at HPQ hcv
        clear HO hown hp hS
        go_wp2_with fail
        refine (HPQ.out _).mono ?_
        rintro e w7 ⟨rfl, hg⟩
        have GE := Lib.hid (grown_then GF.out hg)
        clear hg HPQ
        dsimp only
        go_wp2
        go_ret2
        exact ⟨by rw [HPS.out]; rfl, GE.out⟩
  · have e0 : (E != 0) = true := bne_iff_ne.2 h0
    have HPS : Hid (putS s = ([], E)) := Lib.hid (by rw [put_no (by rw [hE]; exact h0), hE])
    clear hs ho hE h0
    go_enter Tryd.func20, Tryd.ntmps20
    go_wp2_with fail
    refine HC.out.mono ?_
    rintro e w1 ⟨rfl, hg⟩
    have HG1 := Lib.hid (grown_then HG0.out hg)
    clear hg q0 q1 q2 q3 q4 HC
    dsimp only
    go_wp2
    go_ret2
    exact ⟨by rw [HPS.out]; rfl, HG1.out⟩
end Go.Proofs.YtfojkglindpjjaaDoor.Su
namespace Go.Proofs.YtfojkglindpjjaaDoor.Su
open Go.RowKit Bs Dv Gr Dr
open Fr (block_turn)

/-- values in slots; operation iA makes the box, iS fills it -/
structure BI (D S : List Nat) (V : List Value) (dB iA iS : Nat) (t : Sup) (w0 : World) (a0 : Act) (L : Nat → Bool) (x : Act) (W : World) : Prop where
  vi : VI D S V (fun _ W => w0.grownBy W none) a0 L x W
  o11 : L iS = true → L iA = true
  box : L iA = true → ∃ g, At x dB = .pointer (some ⟨g, 0, none⟩) ∧ w0.heap.size ≤ g ∧ ∃ s' a' n' c', SB W g s' a' n' c' ∧ (L iS = true → s' = t ∧ a' = none ∧ n' = 0 ∧ c' = 0)
section
variable {D S : List Nat} {V : List Value} {dB iA iS : Nat} {t : Sup} {w0 : World} {a0 : Act} {L : Nat → Bool} {x : Act} {W : World}
theorem BI.start (n : Nat) (hn : n ≤ a0.tmps.size) (h : ∀ d ∈ D, d < n) (hg : w0.grownBy W none) : BI D S V dB iA iS t w0 a0 (fun _ => false) a0 W :=
  ⟨VI.start n hn h hg, (fun h => by cases h), (fun h => by cases h)⟩
theorem BI.value (h : BI D S V dB iA iS t w0 a0 L x W) (hS : S.Nodup) (i : Nat) (hi : i < S.length) (hD : S.getD i 0 ∈ D) (hne : S.getD i 0 ≠ dB) (hA : i ≠ iA) (hB : i ≠ iS) {v : Value} (hv : v = V.getD i undef) :
    BI D S V dB iA iS t w0 a0 (upd L i) (x.put (some (S.getD i 0)) v) W := by
  refine ⟨h.vi.value hS i hi hD hv h.vi.mem, fun k => upd_old (h.o11 (upd_not k hB.symm)), fun k => ?_⟩
  obtain ⟨g, k1, k2, s', a', n', c', k3, k4⟩ := h.box (upd_not k hA.symm)
  exact ⟨g, by rw [At.put_ne hne.symm]; exact k1, k2, s', a', n', c', k3, fun z => k4 (upd_not z hB.symm)⟩
theorem BI.made (h : BI D S V dB iA iS t w0 a0 L x W) (hB : dB ∈ D) (hs : S.getD iA 0 ∉ D) (hno : ∀ i, i < S.length → S.getD i 0 ≠ dB) (hAS : iS ≠ iA) (h0 : L iA = false) {o : Obj}
    (ho : o = .cells #[.int .u64 0, .int .i64 0, .int .i64 0, .int .u32 0, .slice none 0 0] 29) :
    BI D S V dB iA iS t w0 a0 (upd L iA) (x.put (some dB) (.pointer (some ⟨W.heap.size, 0, none⟩))) (W.alloc o) := by
  have h13 : L iS = false := by cases e : L iS with
    | false => rfl
    | true => rw [h.o11 e] at h0; cases h0
  have hgr := grown_alloc W o
  have hv : VI D S V (fun _ W => w0.grownBy W none) a0 (upd L iA) (x.put (some dB) (.pointer (some ⟨W.heap.size, 0, none⟩))) (W.alloc o) := ⟨h.vi.agr.put hB _, h.vi.big, fun i hi hd hl => by
    rw [At.put_ne (hno i hi)]
    exact h.vi.vals i hi hd (upd_not hl (fun e => hs (by rw [← e]; exact hd))), grown_then h.vi.mem hgr⟩
  refine ⟨hv, fun _ => upd_self L iA, fun _ => ⟨W.heap.size, by rw [At.put_same (by rw [h.vi.agr.size]; exact h.vi.big _ hB)], h.vi.mem.size, zeroS, none, 0, 0, by rw [ho]; exact SB.new W zeroS none 0 0, fun z => ?_⟩⟩
  rw [upd_not z hAS] at h13; cases h13
theorem BI.fill (h : BI D S V dB iA iS t w0 a0 L x W) (hs : S.getD iS 0 ∉ D) (h11 : L iA = true) :
    ∃ g s' a' n' c', At x dB = .pointer (some ⟨g, 0, none⟩) ∧ SB W g s' a' n' c' ∧ ∀ w', SB w' g t none 0 0 → Turn W w' (· = g) → BI D S V dB iA iS t w0 a0 (upd L iS) x w' := by
  obtain ⟨g, k1, k2, s', a', n', c', k3, _⟩ := h.box h11
  exact ⟨g, s', a', n', c', k1, k3, fun w' hsb ht => ⟨h.vi.other iS hs (grown_put h.vi.mem ht k2), fun _ => upd_old h11, fun _ => ⟨g, k1, k2, t, none, 0, 0, hsb, fun _ => ⟨rfl, rfl, rfl, rfl⟩⟩⟩⟩
end
end Go.Proofs.YtfojkglindpjjaaDoor.Su
namespace Go.Proofs.YtfojkglindpjjaaDoor.Su
open Go.RowKit Bs Dv Gr Dr
open Oct (ofB)
open Fr (block_turn kindF FmOk fmE fmV Fm strE)

theorem cut_of (d : List Int) (gb lo k c : Nat) (W : World) (hb : Bs.IsB d) (hr : Reg W gb 0 d) (h1 : lo + k ≤ d.length) (h2 : k ≤ 8) (h3 : k ≤ c) (h4 : c ≤ maxLen) :
    Calls Tryd.prog 38 #[.slice (some ⟨gb, lo, none⟩) k c] W fun e w' => e = .returned (.int .u64 (ofB ((d.drop lo).take k))) ∧ W.grownBy w' none := by
  have hl : ((d.drop lo).take k).length = k := by rw [List.length_take, List.length_drop]; omega
  have hs := ((hr.sub lo).take k).seg (c := c) (by rw [hl]; exact h3) h4
  rw [hl] at hs
  exact (Ref1.rof_any gb lo k c _ W hs (fun x hx => hb x (List.mem_of_mem_drop (List.mem_of_mem_take hx))) h2).mono fun e w' h => ⟨h.1, by rw [← h.2]; exact grown_refl _⟩
theorem cut_bound (d : List Int) (hb : Bs.IsB d) (lo : Nat) : 0 ≤ ofB ((d.drop lo).take 4) ∧ ofB ((d.drop lo).take 4) < 4294967296 := by
  have h1 := Oct.ofB_bound ((d.drop lo).take 4) (fun x hx => hb x (List.mem_of_mem_drop (List.mem_of_mem_take hx)))
  have h2 : ((d.drop lo).take 4).length ≤ 4 := by rw [List.length_take]; omega
  refine ⟨h1.1, Int.lt_of_lt_of_le h1.2 ?_⟩
  generalize ((d.drop lo).take 4).length = k at h2
  have : k = 0 ∨ k = 1 ∨ k = 2 ∨ k = 3 ∨ k = 4 := by omega
  rcases this with rfl | rfl | rfl | rfl | rfl <;> (show _ ≤ (4294967296 : Int); decide)
theorem wp_store_pages {w : World} {o : Oper} {a : Act} {K : Act → World → Prop} {Q : Exit → Act → World → Prop} (hgd : o.dst = none) (x y : Operand) (ho : o.op = .store 27 x y)
    (g : Nat) (hx : a.eval x = .pointer (some ⟨g, 4, none⟩)) (p : Option Addr) (n c : Nat) (hy : a.eval y = .slice p n c) (s : Sup) (p0 : Option Addr) (n0 c0 : Nat) (hg : SB w g s p0 n0 c0)
    (h : ∀ w', SB w' g s p n c → Turn w w' (· = g) → K a w') : Oper.wp Tryd.prog o a w K Q := by
  have e : (execOp a.eval o).run Tryd.prog w = .ok .skip (w.setCell ⟨g, 4, none⟩ (.slice p n c)) := by
    have c4 := hg.cells.2.2.2.2
    have f4 := hg.froz 4
    generalize a.eval = ev at hx hy ⊢
    simp [go_sem, ho, hx, hy, c4, f4]
  unfold Oper.wp
  rw [e]
  show K (a.put o.dst undef) _
  rw [hgd]
  exact h _ (hg.pages_set p n c) (Turn.setCell w ⟨g, 4, none⟩ (.slice p n c) (S := (· = g)) rfl)

theorem BI.grow {D S : List Nat} {V : List Value} {dB iA iS : Nat} {t : Sup} {w0 : World} {a0 : Act} {L : Nat → Bool} {x : Act} {W w' : World} (h : BI D S V dB iA iS t w0 a0 L x W) (hg : W.grownBy w' none) : BI D S V dB iA iS t w0 a0 L x w' :=
  ⟨⟨h.vi.agr, h.vi.big, h.vi.vals, grown_then h.vi.mem hg⟩, h.o11, fun k => by
    obtain ⟨g, k1, k2, s', a', n', c', k3, k4⟩ := h.box k
    exact ⟨g, k1, k2, s', a', n', c', k3.old hg, k4⟩⟩
theorem VI.next {D S : List Nat} {V V' : List Value} {M M' : (Nat → Bool) → World → Prop} {a0 : Act} {L : Nat → Bool} {a : Act} {w w' : World} (h : VI D S V M a0 L a w) (hV : ∀ i, L i = true → V'.getD i undef = V.getD i undef) (hS : S.Nodup) (i : Nat) (hi : i < S.length) (hD : S.getD i 0 ∈ D) {v : Value} (hv : v = V'.getD i undef) (hM : M' (upd L i) w') : VI D S V' M' a0 (upd L i) (a.put (some (S.getD i 0)) v) w' :=
  have h2 : VI D S V' (fun _ _ => True) a0 L a w := ⟨h.agr, h.big, fun i hi hd hl => by rw [hV i hl]; exact h.vals i hi hd hl, trivial⟩
  have r := h2.value hS i hi hD hv (w' := w') trivial
  ⟨r.agr, r.big, r.vals, hM⟩
/-- what the loop's statement's slots bear -/
def V11 (g7 gb n cap : Nat) (i : Nat) (x : Int) (a : Option Addr) (k c : Nat) (g9 g' c' : Nat) : List Value :=
  [.pointer (some ⟨g7, 4, none⟩), .slice a k c, .slice (some ⟨gb, 0, none⟩) n cap, .int .i64 i, .int .i64 i, .int .i64 ((i : Int) + 4), .slice (some ⟨gb, i, none⟩) 4 (cap - i), .int .u64 x, .int .u32 x, .slice (some ⟨g9, 0, none⟩) 1 1, .slice (some ⟨g', 0, none⟩) (k + 1) c', .pointer (some ⟨g7, 4, none⟩), undef]
theorem v11_9 {g7 gb n cap i : Nat} {x : Int} {a : Option Addr} {k c g9 g' c' : Nat} (h9 : Nat) (j : Nat) (hj : j ≠ 9) : (V11 g7 gb n cap i x a k c h9 g' c').getD j undef = (V11 g7 gb n cap i x a k c g9 g' c').getD j undef := by
  match j, hj with
  | 0, _ | 1, _ | 2, _ | 3, _ | 4, _ | 5, _ | 6, _ | 7, _ | 8, _ => rfl
  | j + 10, _ => rfl
theorem v11_10 {g7 gb n cap i : Nat} {x : Int} {a : Option Addr} {k c g9 g' c' : Nat} (h' d' : Nat) (j : Nat) (hj : j ≠ 10) : (V11 g7 gb n cap i x a k c g9 h' d').getD j undef = (V11 g7 gb n cap i x a k c g9 g' c').getD j undef := by
  match j, hj with
  | 0, _ | 1, _ | 2, _ | 3, _ | 4, _ | 5, _ | 6, _ | 7, _ | 8, _ | 9, _ => rfl
  | j + 11, _ => rfl

/-- The loop's statement, whatever order it takes: numbers 9 (the literal), 10 (the append), 12 (the store) move memory. -/
structure AI (base B5 : Nat) (t : Sup) (a : Option Addr) (k c : Nat) (l : List Int) (x : Int) (wr : World) (g9 g' c' : Nat) (L : Nat → Bool) (W : World) : Prop where
  turn : Turn wr W (fun i => base ≤ i ∨ i = B5)
  lit : L 9 = true → L 10 = false → W.cell? ((⟨g9, 0, none⟩ : Addr).add 0) = some (.int .u32 x)
  own : L 10 = false → W.ownsRow base 26 1 (.slice a k c) k (l.map (Value.int .u32))
  own2 : L 10 = true → W.ownsRow base 26 1 (.slice (some ⟨g', 0, none⟩) (k + 1) c') (k + 1) ((l ++ [x]).map (Value.int .u32))
  sb : L 12 = false → SB W B5 t a k c
  sb2 : L 12 = true → SB W B5 t (some ⟨g', 0, none⟩) (k + 1) c'
  o10 : L 10 = true → L 9 = true
  o12 : L 12 = true → L 10 = true
  o1 : L 10 = true → L 1 = true
section
variable {base B5 : Nat} {t : Sup} {a : Option Addr} {k c : Nat} {l : List Int} {x : Int} {wr : World} {g9 g' c' : Nat} {L : Nat → Bool} {W : World}
theorem upd_no {L : Nat → Bool} {i j : Nat} (h : upd L i j = false) : L j = false := by
  cases e : L j with
  | false => rfl
  | true => rw [upd_old e] at h; cases h
theorem AI.keep (h : AI base B5 t a k c l x wr g9 g' c' L W) {i : Nat} (h9 : i ≠ 9) (h10 : i ≠ 10) (h12 : i ≠ 12) : AI base B5 t a k c l x wr g9 g' c' (upd L i) W :=
  ⟨h.turn, fun p q => h.lit (upd_not p h9.symm) (upd_no q), fun p => h.own (upd_no p), fun p => h.own2 (upd_not p h10.symm), fun p => h.sb (upd_no p), fun p => h.sb2 (upd_not p h12.symm), fun p => upd_old (h.o10 (upd_not p h10.symm)), fun p => upd_old (h.o12 (upd_not p h12.symm)), fun p => upd_old (h.o1 (upd_not p h10.symm))⟩
theorem AI.no12 (h : AI base B5 t a k c l x wr g9 g' c' L W) (h0 : L 10 = false) : L 12 = false := by
  cases e : L 12 with
  | false => rfl
  | true => rw [h.o12 e] at h0; cases h0
theorem AI.no10 (h : AI base B5 t a k c l x wr g9 g' c' L W) (h0 : L 9 = false) : L 10 = false := by
  cases e : L 10 with
  | false => rfl
  | true => rw [h.o10 e] at h0; cases h0
theorem AI.grow (h : AI base B5 t a k c l x wr g9 g' c' L W) {w' : World} (hg : W.grownBy w' none) : AI base B5 t a k c l x wr g9 g' c' L w' :=
  have ht := grown_turn hg
  ⟨h.turn.trans ht (fun _ _ e => e.elim), fun p q => hg.cell (h.lit p q) (by simp), fun p => own_turnB (h.own p) ht (fun _ _ e => e.elim), fun p => own_turnB (h.own2 p) ht (fun _ _ e => e.elim), fun p => (h.sb p).old hg, fun p => (h.sb2 p).old hg, h.o10, h.o12, h.o1⟩
theorem AI.before (h : AI base B5 t a k c l x wr g9 g' c' L W) (h0 : L 1 = false) : L 10 = false := by
  cases e : L 10 with
  | false => rfl
  | true => rw [h.o1 e] at h0; cases h0
theorem AI.made (h : AI base B5 t a k c l x wr g9 g' c' L W) (h0 : L 9 = false) : AI base B5 t a k c l x wr W.heap.size g' c' (upd L 9) (W.alloc (.cells #[.int .u32 x] 26)) :=
  have n10 := h.no10 h0
  have n12 := h.no12 n10
  ⟨h.turn.trans (Turn.alloc W _ (fun i => base ≤ i ∨ i = B5)) (fun _ _ e => e), fun _ _ => cell_new W _ _, fun p => (h.own (upd_no p)).alloc _, fun p => absurd (upd_not p (by decide)) (by rw [n10]; decide), fun p => (h.sb (upd_no p)).old (grown_alloc _ _), fun p => absurd (upd_not p (by decide)) (by rw [n12]; decide),
    fun _ => upd_self L 9, fun p => absurd (upd_not p (by decide)) (by rw [n12]; decide), fun p => absurd (upd_not p (by decide)) (by rw [n10]; decide)⟩
theorem AI.appended (h : AI base B5 t a k c l x wr g9 g' c' L W) (h0 : L 10 = false) (h1 : L 1 = true) (h9 : L 9 = true) (hB : B5 < base) {w' : World} {h' d' : Nat} (hown : w'.ownsRow base 26 1 (.slice (some ⟨h', 0, none⟩) (k + 1) d') (k + 1) (l.map (Value.int .u32) ++ [.int .u32 x])) (hg : W.grownBy w' (Value.slice a k c).ownBlock) :
    AI base B5 t a k c l x wr g9 h' d' (upd L 10) w' :=
  have n12 := h.no12 h0
  have ht : Turn W w' (fun i => base ≤ i) := Turn.of_grown hg (fun i e _ => ((h.own h0).lt i e).1)
  ⟨h.turn.trans ht (fun _ _ e => .inl e), fun _ q => (by rw [upd_self] at q; cases q), fun p => (by rw [upd_self] at p; cases p), fun _ => (by rw [List.map_append]; exact hown), fun p => block_turn (h.sb (upd_no p)) ht (by omega), fun p => absurd (upd_not p (by decide)) (by rw [n12]; decide),
    fun _ => upd_old h9, fun p => absurd (upd_not p (by decide)) (by rw [n12]; decide), fun _ => upd_old h1⟩
theorem AI.stored (h : AI base B5 t a k c l x wr g9 g' c' L W) (h10 : L 10 = true) (hB : B5 < base) {w' : World} (hsb : SB w' B5 t (some ⟨g', 0, none⟩) (k + 1) c') (ht : Turn W w' (· = B5)) : AI base B5 t a k c l x wr g9 g' c' (upd L 12) w' :=
  ⟨h.turn.trans ht (fun _ _ e => .inr e), fun _ q => (by rw [upd_old h10] at q; cases q), fun p => (by rw [upd_old h10] at p; cases p), fun _ => own_turnB (h.own2 h10) ht (fun i h e => by have e2 : i = B5 := e; omega), fun p => (by rw [upd_self] at p; cases p), fun _ => hsb,
    fun _ => upd_old (h.o10 h10), fun _ => upd_old h10, fun _ => upd_old (h.o1 h10)⟩
end

set_option linter.unusedSimpArgs false in
set_option maxRecDepth 100000 in
set_option maxHeartbeats 8000000 in
theorem rget_any (B : List Int) (w : World) (hB : Bs.IsB B) (hlen : B.length ≤ 1000000) :
    Calls Tryd.prog 21 #[.string (strOfNums B)] w (GotX w (getS B)) := by
  obtain ⟨i0, hi, hz0, hz1, hz2⟩ := info_parts Ws.info_u32
  have S0 := SB.new w zeroS none 0 0
  have G0 := grown_alloc w (.cells #[.int .u64 0, .int .i64 0, .int .i64 0, .int .u32 0, .slice none 0 0] 29)
  have S0 : SB (w.alloc (.cells #[.int .u64 0, .int .i64 0, .int .i64 0, .int .u32 0, .slice none 0 0] 29)) w.heap.size zeroS none 0 0 := S0
  obtain ⟨W0, hW0⟩ : ∃ X, w.alloc (.cells #[.int .u64 0, .int .i64 0, .int .i64 0, .int .u32 0, .slice none 0 0] 29) = X := ⟨_, rfl⟩
  rw [hW0] at S0 G0
  have HS0 := Lib.hid S0
  have HG0 := Lib.hid G0
  have HK := Lib.hid (Fr.rkind_any B 1 W0 hB hlen)
  have hko : (kindF B 1).2 = 0 → FmOk (1, (kindF B 1).1.2.1, (kindF B 1).1.2.2) ∧ (kindF B 1).1.2.2.length ≤ 4096 := fun h => ⟨kind_ok hB h, by
    have h1 := kind_len hB h
    have h2 := (kind_fits h).2.1
    omega⟩
  have HT9 : Hid (∀ pb : List Int, pb ≠ B → Bs.IsB pb → ((strOfNums pb).toList == (strOfNums B).toList) = false) := Lib.hid (fun pb h1 h2 => Fr.toList_ne (fun h4 => h1 (Dv.str_inj h2 hB h4)))
  obtain ⟨R, hR⟩ : ∃ R, getS B = R := ⟨_, rfl⟩
  have hP : getS B = if (kindF B 1).2 ≠ 0 then (zeroS, (kindF B 1).2) else if (kindF B 1).1.2.2.length < 14 then (zeroS, 4) else if putS (readS (kindF B 1).1.2.1 (kindF B 1).1.2.2) = (B, 0) then (readS (kindF B 1).1.2.1 (kindF B 1).1.2.2, 0) else (zeroS, 4) := rfl
  rw [hR] at hP
  have HP := Lib.hid hP
  clear hP
  obtain ⟨⟨⟨t, g, d⟩, E⟩, hk⟩ : ∃ r, kindF B 1 = r := ⟨_, rfl⟩
  rw [hk] at HK HP hko
  dsimp only at HP hko
  have HKO := Lib.hid hko
  obtain ⟨S, hS⟩ : ∃ S, strOfNums B = S := ⟨_, rfl⟩
  have HSB := Lib.hid hS
  rw [hS] at HK HT9 ⊢
  rw [hR]
  clear hB hlen S0 G0 hko hk hS hR
  go_enter Tryd.func21, Tryd.ntmps21
  go_wp2_with fail
  refine HK.out.mono ?_
  rintro e w1 ⟨rfl, hg⟩
  have HG1 := Lib.hid (grown_then HG0.out (grown_then hg (grown_alloc w1 (.cells #[.int .u8 t, .int .u64 g, .string (strOfNums d)] 41))))
  have HS1 := Lib.hid (HS0.out.old (grown_then hg (grown_alloc w1 (.cells #[.int .u8 t, .int .u64 g, .string (strOfNums d)] 41))))
  have HF1 := Lib.hid (heap_alloc_new w1 (.cells #[.int .u8 t, .int .u64 g, .string (strOfNums d)] 41))
  obtain ⟨W1, hW1⟩ : ∃ X, w1.alloc (.cells #[.int .u8 t, .int .u64 g, .string (strOfNums d)] 41) = X := ⟨_, rfl⟩
  rw [hW1] at HG1 HS1 HF1
  clear hg HG0 HS0 HK hW0
  simp only [fmE, fmV]
  by_cases h0 : E = 0
  case neg =>
    have hR : R = (zeroS, E) := by rw [HP.out, if_pos h0]
    subst hR
    have q0 : (E != 0) = true := bne_iff_ne.2 h0
    clear h0 HP HKO
    have f0 : W1.cell? ⟨w1.heap.size, 0, none⟩ = some (.int .u8 t) := by rw [cell_of_row _ _ _ _ _ _ HF1.out]; rfl
    go_wp2_with (first
      | (with_reducible refine wpList_store_super rfl (.tmp 2) (.tmp 18) rfl w.heap.size rfl zeroS none 0 0 rfl zeroS none 0 0 HS1.out ?_; intro w6 hq6 ht6)
      | fail)
    refine bodyPost_ret (run_results_super rfl _ _ _ _ _ _ _ rfl hq6 (.int .i64 E) rfl) rfl (GotX.no (grown_put HG1.out ht6 (Nat.le_refl _)))
  obtain ⟨hfm, hdl⟩ := HKO.out h0
  rw [if_neg (fun h => h h0)] at HP
  subst h0
  have hdb : Bs.IsB d := hfm.2.2
  have HRO := Lib.hid (read_ok hfm)
  obtain ⟨n, hn⟩ : ∃ n, d.length = n := ⟨_, rfl⟩
  have HN := Lib.hid hn
  obtain ⟨cap, W5, hrun, hreg, htn, hv1, hv2⟩ := conv_bytes d hdb (by omega) W1
  have hDs := strOfNums_size d
  rw [hn] at hDs hdl HP
  obtain ⟨D, hD⟩ : ∃ D, strOfNums d = D := ⟨_, rfl⟩
  rw [hD] at hDs HF1 hrun hW1 ⊢
  have HDB := Lib.hid hdb
  have HREG := Lib.hid hreg
  have HTN := Lib.hid htn
  clear hfm hdb hreg htn hD
  have f0 : W1.cell? ⟨w1.heap.size, 0, none⟩ = some (.int .u8 t) := by rw [cell_of_row _ _ _ _ _ _ HF1.out]; rfl
  have f1 : W1.cell? ⟨w1.heap.size, 1, none⟩ = some (.int .u64 g) := by rw [cell_of_row _ _ _ _ _ _ HF1.out]; rfl
  have f2 : W1.cell? ⟨w1.heap.size, 2, none⟩ = some (.string D) := by rw [cell_of_row _ _ _ _ _ _ HF1.out]; rfl
  by_cases h14 : n < 14
  · have q1 : decide ((n : Int) < 14) = true := decide_eq_true (by omega)
    have hR : R = (zeroS, 4) := by rw [HP.out, if_pos h14]
    subst hR
    clear HP HKO hrun h14
    go_wp2_with (first
      | (with_reducible refine wpList_store_super rfl (.tmp 2) (.tmp 24) rfl w.heap.size rfl zeroS none 0 0 rfl zeroS none 0 0 HS1.out ?_; intro w6 hq6 ht6)
      | fail)
    refine bodyPost_ret (run_results_super rfl _ _ _ _ _ _ _ rfl hq6 (.int .i64 4) rfl) rfl (GotX.no (grown_put HG1.out ht6 (Nat.le_refl _)))
  have q1 : decide ((n : Int) < 14) = false := decide_eq_false (by omega)
  rw [if_neg h14] at HP
  obtain ⟨gb, hgb⟩ : ∃ g, W1.heap.size = g := ⟨_, rfl⟩
  rw [hgb, hn] at hrun
  rw [hgb] at HREG
  rw [hn] at hv1
  have HG5 := Lib.hid (grown_then HG1.out HTN.out.grown)
  have HS5 := Lib.hid (HS1.out.old HTN.out.grown)
  have HF5 := Lib.hid (block_old HF1.out HTN.out.grown)
  have hgb5 : gb < W5.heap.size := HREG.out.lt (fun h => by rw [h] at hn; simp at hn; omega)
  have hwl := HS5.out.lt
  have hwg : w.heap.size < gb := by
    have := HS1.out.lt
    omega
  go_upto_region 7 with (fail)
  clear hrun f0 f1 f2 HG1 HS1 HF1 HTN HKO hDs hW1
  obtain ⟨N, hNN⟩ : ∃ N, n - 14 = N := ⟨_, rfl⟩
  obtain ⟨ps, hps⟩ : ∃ ps, chunks d.length (d.drop 14) = ps := ⟨_, rfl⟩
  have hdn : (d.drop 14).length = N := by rw [List.length_drop]; omega
  have HPL : Hid (ps.length = N / 4) := Lib.hid (by rw [← hps, chunks_len _ _ (by rw [hdn]; omega), hdn])
  have HPT : Hid (∀ k, 4 * (k + 1) ≤ N → ps.take (k + 1) = ps.take k ++ [ofB ((d.drop (14 + 4 * k)).take 4)]) := Lib.hid (fun k hk => by rw [← hps, chunks_take _ _ k (by rw [hdn]; exact hk) (by rw [hdn]; omega), List.drop_drop])
  have hb0 := cut_bound d HDB.out 0
  have hb1 := cut_bound d HDB.out 4
  have hb2 := cut_bound d HDB.out 8
  have HC0 := Lib.hid (fun W (hr : Reg W gb 0 d) c h1 h2 => cut_of d gb 0 4 c W HDB.out hr (by omega) (by decide) h1 h2)
  have HC1 := Lib.hid (fun W (hr : Reg W gb 0 d) c h1 h2 => cut_of d gb 4 4 c W HDB.out hr (by omega) (by decide) h1 h2)
  have HC2 := Lib.hid (fun W (hr : Reg W gb 0 d) c h1 h2 => cut_of d gb 8 4 c W HDB.out hr (by omega) (by decide) h1 h2)
  have HRS : Hid (readS g d = ⟨g, ofB ((d.drop 0).take 4), ofB ((d.drop 4).take 4), ofB ((d.drop 8).take 4), ps⟩) := Lib.hid (by rw [← hps]; rfl)
  obtain ⟨x0, hx0⟩ : ∃ x, ofB ((d.drop 0).take 4) = x := ⟨_, rfl⟩
  obtain ⟨x1, hx1⟩ : ∃ x, ofB ((d.drop 4).take 4) = x := ⟨_, rfl⟩
  obtain ⟨x2, hx2⟩ : ∃ x, ofB ((d.drop 8).take 4) = x := ⟨_, rfl⟩
  rw [hx0] at hb0 HC0 HRS
  rw [hx1] at hb1 HC1 HRS
  rw [hx2] at hb2 HC2 HRS
  rw [HRS.out] at HP HRO
  have w0 : IntKind.i64.wrap x0 = x0 := IntWalk.i64_in _ (by omega)
  have w1' : IntKind.i64.wrap x1 = x1 := IntWalk.i64_in _ (by omega)
  have w2 : IntKind.u32.wrap x2 = x2 := by rw [IntKind.wrap_u32]; omega
  have c4 : (4 : Int) ≤ (cap : Int) := by omega
  have c8 : (8 : Int) ≤ (cap : Int) := by omega
  have c12 : (12 : Int) ≤ (cap : Int) := by omega
  have n4 : ¬ cap = 4 := by omega
  have n8 : ¬ cap = 8 := by omega
  clear hps hx0 hx1 hx2 hb0 hb1 hb2 HRS
  refine wp_region_inv_at (I := fun a0 L x W => BI [7, 28, 29, 30, 31, 32, 33, 34, 35, 36, 37, 38, 39, 40, 41, 42, 43] [28, 29, 30, 31, 32, 33, 34, 35, 36, 37, 38, 39, 40, 41, 42, 43, 1000, 1001]
    [.pointer (some ⟨w1.heap.size, 1, none⟩), .int .u64 g, .slice (some ⟨gb, 0, none⟩) n cap, .slice (some ⟨gb, 0, none⟩) 4 cap, .int .u64 x0, .int .i64 x0, .slice (some ⟨gb, 0, none⟩) n cap, .slice (some ⟨gb, 4, none⟩) 4 (cap - 4), .int .u64 x1, .int .i64 x1, .agg #[.int .i64 x0, .int .i64 x1], .slice (some ⟨gb, 0, none⟩) n cap, .slice (some ⟨gb, 8, none⟩) 4 (cap - 8), .int .u64 x2, .int .u32 x2, .agg #[.int .u64 g, .int .i64 x0, .int .i64 x1, .int .u32 x2, .slice none 0 0], undef, undef] 7 16 17 ⟨g, x0, x1, x2, ps⟩ W5 a0 L x W) (by kernel_rfl) (by kernel_rfl) (BI.start 44 (by simp) (by decide) (grown_drew W5)) ?_ ?_
  · show ∀ i, i < 18 → _
    refine all_snoc (all_snoc (all_snoc (all_snoc (all_snoc (all_snoc (all_snoc (all_snoc (all_snoc (all_snoc (all_snoc (all_snoc (all_snoc (all_snoc (all_snoc (all_snoc (all_snoc (all_snoc all_nil ?o0) ?o1) ?o2) ?o3) ?o4) ?o5) ?o6) ?o7) ?o8) ?o9) ?o10) ?o11) ?o12) ?o13) ?o14) ?o15) ?o16) ?o17
    case o0 =>
      refine StepAt.mk rfl (ns := []) (by kernel_rfl) rfl ?_
      intro L x W h0 hn hI
      have e1 : x.tmps[4]?.getD undef = .pointer (some ⟨w1.heap.size, 0, none⟩) := hI.vi.old 4 (by decide)
      refine wp_yield (v := .pointer (some ⟨w1.heap.size, 1, none⟩)) ?_ (hI.value (by decide) 0 (by decide) (by decide) (by decide) (by decide) (by decide) rfl)
      simp [go_sem, e1]
    case o1 =>
      refine StepAt.mk rfl (ns := [0]) (by kernel_rfl) rfl ?_
      intro L x W h0 hn hI
      have e28 : x.tmps[28]?.getD undef = .pointer (some ⟨w1.heap.size, 1, none⟩) := hI.vi.get 0 (by decide) (by decide) (hn 0 (by decide))
      have f1 : W.cell? ⟨w1.heap.size, 1, none⟩ = some (.int .u64 g) := by rw [cell_of_row _ _ _ _ _ _ (block_old HF5.out hI.vi.mem)]; rfl
      refine wp_yield (v := .int .u64 g) ?_ (hI.value (by decide) 1 (by decide) (by decide) (by decide) (by decide) (by decide) rfl)
      simp [go_sem, e28, f1]
    case o2 =>
      refine StepAt.mk rfl (ns := []) (by kernel_rfl) rfl ?_
      intro L x W h0 hn hI
      have e1 : x.tmps[6]?.getD undef = .slice (some ⟨gb, 0, none⟩) n cap := hI.vi.old 6 (by decide)
      refine wp_yield (v := .slice (some ⟨gb, 0, none⟩) n cap) ?_ (hI.value (by decide) 2 (by decide) (by decide) (by decide) (by decide) (by decide) rfl)
      simp [go_sem, e1]
    case o3 =>
      refine StepAt.mk rfl (ns := [2]) (by kernel_rfl) rfl ?_
      intro L x W h0 hn hI
      have e30 : x.tmps[30]?.getD undef = .slice (some ⟨gb, 0, none⟩) n cap := hI.vi.get 2 (by decide) (by decide) (hn 2 (by decide))
      refine wp_yield (v := .slice (some ⟨gb, 0, none⟩) 4 cap) ?_ (hI.value (by decide) 3 (by decide) (by decide) (by decide) (by decide) (by decide) rfl)
      simp [go_sem, e30, c4, c8, c12, n4, n8]
    case o4 =>
      refine StepAt.mk rfl (ns := [3]) (by kernel_rfl) rfl ?_
      intro L x W h0 hn hI
      have e31 : x.tmps[31]?.getD undef = .slice (some ⟨gb, 0, none⟩) 4 cap := hI.vi.get 3 (by decide) (by decide) (hn 3 (by decide))
      refine wp_func (v := .int .u64 x0) (R := fun w2 => W.grownBy w2 none) (f := 38) (vs := #[.slice (some ⟨gb, 0, none⟩) 4 cap]) ?_ (HC0.out W (HREG.out.turn (grown_turn hI.vi.mem) id) cap (by omega) (by omega)) (fun w2 hg => ?_)
      · simp [go_sem, e31]
      · have hI2 := hI.grow hg
        exact hI2.value (by decide) 4 (by decide) (by decide) (by decide) (by decide) (by decide) rfl
    case o5 =>
      refine StepAt.mk rfl (ns := [4]) (by kernel_rfl) rfl ?_
      intro L x W h0 hn hI
      have e32 : x.tmps[32]?.getD undef = .int .u64 x0 := hI.vi.get 4 (by decide) (by decide) (hn 4 (by decide))
      refine wp_yield (v := .int .i64 x0) ?_ (hI.value (by decide) 5 (by decide) (by decide) (by decide) (by decide) (by decide) rfl)
      simp [go_sem, e32, w0, w1', w2]
    case o6 =>
      refine StepAt.mk rfl (ns := []) (by kernel_rfl) rfl ?_
      intro L x W h0 hn hI
      have e1 : x.tmps[6]?.getD undef = .slice (some ⟨gb, 0, none⟩) n cap := hI.vi.old 6 (by decide)
      refine wp_yield (v := .slice (some ⟨gb, 0, none⟩) n cap) ?_ (hI.value (by decide) 6 (by decide) (by decide) (by decide) (by decide) (by decide) rfl)
      simp [go_sem, e1]
    case o7 =>
      refine StepAt.mk rfl (ns := [6]) (by kernel_rfl) rfl ?_
      intro L x W h0 hn hI
      have e34 : x.tmps[34]?.getD undef = .slice (some ⟨gb, 0, none⟩) n cap := hI.vi.get 6 (by decide) (by decide) (hn 6 (by decide))
      refine wp_yield (v := .slice (some ⟨gb, 4, none⟩) 4 (cap - 4)) ?_ (hI.value (by decide) 7 (by decide) (by decide) (by decide) (by decide) (by decide) rfl)
      simp [go_sem, e34, c4, c8, c12, n4, n8]
    case o8 =>
      refine StepAt.mk rfl (ns := [7, 4]) (by kernel_rfl) rfl ?_
      intro L x W h0 hn hI
      have e35 : x.tmps[35]?.getD undef = .slice (some ⟨gb, 4, none⟩) 4 (cap - 4) := hI.vi.get 7 (by decide) (by decide) (hn 7 (by decide))
      refine wp_func (v := .int .u64 x1) (R := fun w2 => W.grownBy w2 none) (f := 38) (vs := #[.slice (some ⟨gb, 4, none⟩) 4 (cap - 4)]) ?_ (HC1.out W (HREG.out.turn (grown_turn hI.vi.mem) id) (cap - 4) (by omega) (by omega)) (fun w2 hg => ?_)
      · simp [go_sem, e35]
      · have hI2 := hI.grow hg
        exact hI2.value (by decide) 8 (by decide) (by decide) (by decide) (by decide) (by decide) rfl
    case o9 =>
      refine StepAt.mk rfl (ns := [8]) (by kernel_rfl) rfl ?_
      intro L x W h0 hn hI
      have e36 : x.tmps[36]?.getD undef = .int .u64 x1 := hI.vi.get 8 (by decide) (by decide) (hn 8 (by decide))
      refine wp_yield (v := .int .i64 x1) ?_ (hI.value (by decide) 9 (by decide) (by decide) (by decide) (by decide) (by decide) rfl)
      simp [go_sem, e36, w0, w1', w2]
    case o10 =>
      refine StepAt.mk rfl (ns := [5, 9]) (by kernel_rfl) rfl ?_
      intro L x W h0 hn hI
      have e33 : x.tmps[33]?.getD undef = .int .i64 x0 := hI.vi.get 5 (by decide) (by decide) (hn 5 (by decide))
      have e37 : x.tmps[37]?.getD undef = .int .i64 x1 := hI.vi.get 9 (by decide) (by decide) (hn 9 (by decide))
      refine wp_yield (v := .agg #[.int .i64 x0, .int .i64 x1]) ?_ (hI.value (by decide) 10 (by decide) (by decide) (by decide) (by decide) (by decide) rfl)
      simp [go_sem, e33, e37]
    case o11 =>
      refine StepAt.mk rfl (ns := []) (by kernel_rfl) rfl ?_
      intro L x W h0 hn hI
      have e1 : x.tmps[6]?.getD undef = .slice (some ⟨gb, 0, none⟩) n cap := hI.vi.old 6 (by decide)
      refine wp_yield (v := .slice (some ⟨gb, 0, none⟩) n cap) ?_ (hI.value (by decide) 11 (by decide) (by decide) (by decide) (by decide) (by decide) rfl)
      simp [go_sem, e1]
    case o12 =>
      refine StepAt.mk rfl (ns := [11]) (by kernel_rfl) rfl ?_
      intro L x W h0 hn hI
      have e39 : x.tmps[39]?.getD undef = .slice (some ⟨gb, 0, none⟩) n cap := hI.vi.get 11 (by decide) (by decide) (hn 11 (by decide))
      refine wp_yield (v := .slice (some ⟨gb, 8, none⟩) 4 (cap - 8)) ?_ (hI.value (by decide) 12 (by decide) (by decide) (by decide) (by decide) (by decide) rfl)
      simp [go_sem, e39, c4, c8, c12, n4, n8]
    case o13 =>
      refine StepAt.mk rfl (ns := [12, 8]) (by kernel_rfl) rfl ?_
      intro L x W h0 hn hI
      have e40 : x.tmps[40]?.getD undef = .slice (some ⟨gb, 8, none⟩) 4 (cap - 8) := hI.vi.get 12 (by decide) (by decide) (hn 12 (by decide))
      refine wp_func (v := .int .u64 x2) (R := fun w2 => W.grownBy w2 none) (f := 38) (vs := #[.slice (some ⟨gb, 8, none⟩) 4 (cap - 8)]) ?_ (HC2.out W (HREG.out.turn (grown_turn hI.vi.mem) id) (cap - 8) (by omega) (by omega)) (fun w2 hg => ?_)
      · simp [go_sem, e40]
      · have hI2 := hI.grow hg
        exact hI2.value (by decide) 13 (by decide) (by decide) (by decide) (by decide) (by decide) rfl
    case o14 =>
      refine StepAt.mk rfl (ns := [13]) (by kernel_rfl) rfl ?_
      intro L x W h0 hn hI
      have e41 : x.tmps[41]?.getD undef = .int .u64 x2 := hI.vi.get 13 (by decide) (by decide) (hn 13 (by decide))
      refine wp_yield (v := .int .u32 x2) ?_ (hI.value (by decide) 14 (by decide) (by decide) (by decide) (by decide) (by decide) rfl)
      simp [go_sem, e41, w0, w1', w2]
    case o15 =>
      refine StepAt.mk rfl (ns := [1, 10, 14]) (by kernel_rfl) rfl ?_
      intro L x W h0 hn hI
      have e29 : x.tmps[29]?.getD undef = .int .u64 g := hI.vi.get 1 (by decide) (by decide) (hn 1 (by decide))
      have e38 : x.tmps[38]?.getD undef = .agg #[.int .i64 x0, .int .i64 x1] := hI.vi.get 10 (by decide) (by decide) (hn 10 (by decide))
      have e42 : x.tmps[42]?.getD undef = .int .u32 x2 := hI.vi.get 14 (by decide) (by decide) (hn 14 (by decide))
      refine wp_yield (v := .agg #[.int .u64 g, .int .i64 x0, .int .i64 x1, .int .u32 x2, .slice none 0 0]) ?_ (hI.value (by decide) 15 (by decide) (by decide) (by decide) (by decide) (by decide) rfl)
      simp [go_sem, e29, e38, e42]
    case o16 =>
      refine StepAt.mk rfl (ns := []) (by kernel_rfl) rfl ?_
      intro L x W h0 hn hI
      refine wp_made (v := .pointer (some ⟨W.heap.size, 0, none⟩)) (w' := W.alloc (.cells #[.int .u64 0, .int .i64 0, .int .i64 0, .int .u32 0, .slice none 0 0] 29)) ?_ (hI.made (by decide) (by decide) (by decide) (by decide) h0 rfl)
      simp [go_sem]
    case o17 =>
      refine StepAt.mk rfl (ns := [16, 15, 13, 0, 1, 2, 3, 4, 5, 6, 7, 8, 9, 10, 11, 12, 13, 14, 15, 16]) (by kernel_rfl) rfl ?_
      intro L x W h0 hn hI
      obtain ⟨g7, s', a', n', c', k1, k2, k3⟩ := hI.fill (by decide) (hn 16 (by decide))
      refine wp_store_super rfl (.tmp 7) (.tmp 43) rfl g7 k1 ⟨g, x0, x1, x2, ps⟩ none 0 0 (hI.vi.vals 15 (by decide) (by decide) (hn 15 (by decide))) s' a' n' c' k2 k3
  · intro L x W hL hI
    replace hL : ∀ i, i < 18 → L i = true := hL
    have hform := hI.vi.agr.form
    obtain ⟨g7, v7, hg7, s', a', n', c', q1, q2⟩ := hI.box (hL 16 (by omega))
    obtain ⟨rfl, rfl, rfl, rfl⟩ := q2 (hL 17 (by omega))
    have v28 : At x 28 = .pointer (some ⟨w1.heap.size, 1, none⟩) := hI.vi.vals 0 (by decide) (by decide) (hL 0 (by omega))
    have v29 : At x 29 = .int .u64 g := hI.vi.vals 1 (by decide) (by decide) (hL 1 (by omega))
    have v30 : At x 30 = .slice (some ⟨gb, 0, none⟩) n cap := hI.vi.vals 2 (by decide) (by decide) (hL 2 (by omega))
    have v31 : At x 31 = .slice (some ⟨gb, 0, none⟩) 4 cap := hI.vi.vals 3 (by decide) (by decide) (hL 3 (by omega))
    have v32 : At x 32 = .int .u64 x0 := hI.vi.vals 4 (by decide) (by decide) (hL 4 (by omega))
    have v33 : At x 33 = .int .i64 x0 := hI.vi.vals 5 (by decide) (by decide) (hL 5 (by omega))
    have v34 : At x 34 = .slice (some ⟨gb, 0, none⟩) n cap := hI.vi.vals 6 (by decide) (by decide) (hL 6 (by omega))
    have v35 : At x 35 = .slice (some ⟨gb, 4, none⟩) 4 (cap - 4) := hI.vi.vals 7 (by decide) (by decide) (hL 7 (by omega))
    have v36 : At x 36 = .int .u64 x1 := hI.vi.vals 8 (by decide) (by decide) (hL 8 (by omega))
    have v37 : At x 37 = .int .i64 x1 := hI.vi.vals 9 (by decide) (by decide) (hL 9 (by omega))
    have v38 : At x 38 = .agg #[.int .i64 x0, .int .i64 x1] := hI.vi.vals 10 (by decide) (by decide) (hL 10 (by omega))
    have v39 : At x 39 = .slice (some ⟨gb, 0, none⟩) n cap := hI.vi.vals 11 (by decide) (by decide) (hL 11 (by omega))
    have v40 : At x 40 = .slice (some ⟨gb, 8, none⟩) 4 (cap - 8) := hI.vi.vals 12 (by decide) (by decide) (hL 12 (by omega))
    have v41 : At x 41 = .int .u64 x2 := hI.vi.vals 13 (by decide) (by decide) (hL 13 (by omega))
    have v42 : At x 42 = .int .u32 x2 := hI.vi.vals 14 (by decide) (by decide) (hL 14 (by omega))
    have v43 : At x 43 = .agg #[.int .u64 g, .int .i64 x0, .int .i64 x1, .int .u32 x2, .slice none 0 0] := hI.vi.vals 15 (by decide) (by decide) (hL 15 (by omega))
    have HGW := Lib.hid hI.vi.mem
    clear hI q2 hL
    rw [List.foldl_cons, List.foldl_cons, List.foldl_cons, List.foldl_cons, List.foldl_cons, List.foldl_cons, List.foldl_cons, List.foldl_cons, List.foldl_cons, List.foldl_cons, List.foldl_cons, List.foldl_cons, List.foldl_cons, List.foldl_cons, List.foldl_cons, List.foldl_cons, List.foldl_cons, List.foldl_nil, v7, v28, v29, v30, v31, v32, v33, v34, v35, v36, v37, v38, v39, v40, v41, v42, v43] at hform
    clear v7 v28 v29 v30 v31 v32 v33 v34 v35 v36 v37 v38 v39 v40 v41 v42 v43
    subst hform
    have HS7 := Lib.hid q1
    have hg7l := q1.lt
    have HR7 := Lib.hid (HREG.out.turn (grown_turn HGW.out) id)
    have HZ7 := Lib.hid (HS5.out.old HGW.out)
    have HG7 := Lib.hid (grown_then HG5.out HGW.out)
    have hgb7 : gb < W.heap.size := Nat.lt_of_lt_of_le hgb5 HGW.out.size
    have hgw : w.heap.size < g7 := by omega
    have hg7' := hg7
    have hgne2 : g7 ≠ gb := by omega
    obtain ⟨W7, hW7⟩ : ∃ X, X = W := ⟨_, rfl⟩
    rw [← hW7] at HS7 hg7l HR7 HZ7 HG7 hgb7 ⊢
    clear q1 hW7 HGW HREG HG5 HS5 HF5 HC0 HC1 HC2 w0 w1' w2 c4 c8 c12 n4 n8
    go_wp2
    go_loopw [8] (fun s8 wr => ∃ (i k : Nat) (a : Option Addr) (c : Nat), Hid (i = 14 + 4 * k) ∧ i ≤ n ∧ s8 = .int .i64 i ∧ Hid (Reg wr gb 0 d) ∧ Hid (wr.ownsRow W7.heap.size 26 1 (.slice a k c) k ((ps.take k).map (Value.int .u32))) ∧ Hid (w.grownBy wr none) ∧ Hid (W7.heap.size ≤ wr.heap.size) ∧ Hid (SB wr g7 ⟨g, x0, x1, x2, ps⟩ a k c) ∧ Hid (SB wr w.heap.size zeroS none 0 0)) (fun s8 _ => n - (intOf s8).toNat)
    case atStart => exact ⟨14, 0, none, 0, Lib.hid rfl, by omega, rfl, HR7, Lib.hid ⟨rfl, .inl ⟨rfl, rfl⟩⟩, HG7, Lib.hid (Nat.le_refl _), HS7, HZ7⟩
    case round =>
      clear HR7 HG7 HS7 HZ7
      obtain ⟨i, k, a, c, HI, hin, rfl, HR, HO, HG, HL7, HS, HZ⟩ := hrel
      have e1 : IntKind.i64.wrap ((i : Int) + 4) = (i : Int) + 4 := IntWalk.i64_in _ (by omega)
      by_cases h4 : i + 4 ≤ n
      · have q2 : decide ((i : Int) + 4 ≤ (n : Int)) = true := decide_eq_true (by omega)
        have HPK := Lib.hid (HPT.out k (by have := HI.out; omega))
        have hxb := cut_bound d HDB.out i
        have HCO := Lib.hid (fun W (hr : Reg W gb 0 d) c h1 h2 => cut_of d gb i 4 c W HDB.out hr (by omega) (by decide) h1 h2)
        rw [← HI.out] at HPK
        obtain ⟨x, hx⟩ : ∃ x, ofB ((d.drop i).take 4) = x := ⟨_, rfl⟩
        rw [hx] at HPK hxb HCO
        have e2 : IntKind.u32.wrap x = x := by rw [IntKind.wrap_u32]; omega
        have hk1 : k ≤ 4096 := by have := HI.out; omega
        have i1 : ¬ ((i : Int) < 0) := by omega
        have i2 : (0 : Int) ≤ (i : Int) := by omega
        have i3 : (i : Int) ≤ (i : Int) + 4 := by omega
        have i4 : (i : Int) + 4 ≤ (cap : Int) := by omega
        have i5 : ¬ cap = i := by omega
        have i6 : ((i : Int) + 4).toNat = i + 4 := by omega
        have i7 : (0 : Int) ≤ (i : Int) + 4 := by omega
        have i8 : i ≤ cap := by omega
        have i9 : (i : Int) ≤ (cap : Int) := by omega
        clear hx hxb
        go_upto_region 11 with (fail)
        refine wp_region_inv_at (I := fun a0 L X W => ∃ g9 g' c', VI [51, 52, 53, 54, 55, 56, 57, 58, 59, 60, 61, 62] [51, 52, 53, 54, 55, 56, 57, 58, 59, 60, 61, 62, 1000] (V11 g7 gb n cap i x a k c g9 g' c') (fun L W => AI W7.heap.size g7 ⟨g, x0, x1, x2, ps⟩ a k c (ps.take k) x wr g9 g' c' L W) a0 L X W) (by kernel_rfl) (by kernel_rfl)
          ⟨0, 0, 0, VI.start 63 (by simp) (by decide) ⟨Turn.drew wr _, (fun p => by cases p), fun _ => own_turnB HO.out (Turn.drew wr nowhere) (fun _ _ e => e.elim), (fun p => by cases p), fun _ => HS.out.old (grown_drew wr), (fun p => by cases p), (fun p => by cases p), (fun p => by cases p), (fun p => by cases p)⟩⟩ ?_ ?_
        · show ∀ i, i < 13 → _
          refine all_snoc (all_snoc (all_snoc (all_snoc (all_snoc (all_snoc (all_snoc (all_snoc (all_snoc (all_snoc (all_snoc (all_snoc (all_snoc all_nil ?r0) ?r1) ?r2) ?r3) ?r4) ?r5) ?r6) ?r7) ?r8) ?r9) ?r10) ?r11) ?r12
          case r0 =>
            refine StepAt.mk rfl (ns := []) (by kernel_rfl) rfl ?_
            intro L X W h0 hn hI
            obtain ⟨g9, g', c', hI⟩ := hI
            have e7 : X.tmps[7]?.getD undef = .pointer (some ⟨g7, 0, none⟩) := hI.old 7 (by decide)
            refine wp_yield (v := .pointer (some ⟨g7, 4, none⟩)) ?_ ⟨g9, g', c', hI.value (by decide) 0 (by decide) (by decide) rfl (hI.mem.keep (by decide) (by decide) (by decide))⟩
            simp [go_sem, e7]
          case r1 =>
            refine StepAt.mk rfl (ns := [0]) (by kernel_rfl) rfl ?_
            intro L X W h0 hn hI
            obtain ⟨g9, g', c', hI⟩ := hI
            have e51 : X.tmps[51]?.getD undef = .pointer (some ⟨g7, 4, none⟩) := hI.get 0 (by decide) (by decide) (hn 0 (by decide))
            have c4 := (hI.mem.sb (hI.mem.no12 (hI.mem.before h0))).cells.2.2.2.2
            refine wp_yield (v := .slice a k c) ?_ ⟨g9, g', c', hI.value (by decide) 1 (by decide) (by decide) rfl (hI.mem.keep (by decide) (by decide) (by decide))⟩
            simp [go_sem, e51, c4]
          case r2 =>
            refine StepAt.mk rfl (ns := []) (by kernel_rfl) rfl ?_
            intro L X W h0 hn hI
            obtain ⟨g9, g', c', hI⟩ := hI
            have e1s : X.tmps[6]?.getD undef = .slice (some ⟨gb, 0, none⟩) n cap := hI.old 6 (by decide)
            refine wp_yield (v := .slice (some ⟨gb, 0, none⟩) n cap) ?_ ⟨g9, g', c', hI.value (by decide) 2 (by decide) (by decide) rfl (hI.mem.keep (by decide) (by decide) (by decide))⟩
            simp [go_sem, e1s]
          case r3 =>
            refine StepAt.mk rfl (ns := []) (by kernel_rfl) rfl ?_
            intro L X W h0 hn hI
            obtain ⟨g9, g', c', hI⟩ := hI
            have e1s : X.tmps[8]?.getD undef = .int .i64 i := hI.old 8 (by decide)
            refine wp_yield (v := .int .i64 i) ?_ ⟨g9, g', c', hI.value (by decide) 3 (by decide) (by decide) rfl (hI.mem.keep (by decide) (by decide) (by decide))⟩
            simp [go_sem, e1s]
          case r4 =>
            refine StepAt.mk rfl (ns := []) (by kernel_rfl) rfl ?_
            intro L X W h0 hn hI
            obtain ⟨g9, g', c', hI⟩ := hI
            have e1s : X.tmps[8]?.getD undef = .int .i64 i := hI.old 8 (by decide)
            refine wp_yield (v := .int .i64 i) ?_ ⟨g9, g', c', hI.value (by decide) 4 (by decide) (by decide) rfl (hI.mem.keep (by decide) (by decide) (by decide))⟩
            simp [go_sem, e1s]
          case r5 =>
            refine StepAt.mk rfl (ns := [4]) (by kernel_rfl) rfl ?_
            intro L X W h0 hn hI
            obtain ⟨g9, g', c', hI⟩ := hI
            have e55 : X.tmps[55]?.getD undef = .int .i64 i := hI.get 4 (by decide) (by decide) (hn 4 (by decide))
            refine wp_yield (v := .int .i64 ((i : Int) + 4)) ?_ ⟨g9, g', c', hI.value (by decide) 5 (by decide) (by decide) rfl (hI.mem.keep (by decide) (by decide) (by decide))⟩
            simp [go_sem, e55, e1]
          case r6 =>
            refine StepAt.mk rfl (ns := [2, 3, 5]) (by kernel_rfl) rfl ?_
            intro L X W h0 hn hI
            obtain ⟨g9, g', c', hI⟩ := hI
            have e53 : X.tmps[53]?.getD undef = .slice (some ⟨gb, 0, none⟩) n cap := hI.get 2 (by decide) (by decide) (hn 2 (by decide))
            have e54 : X.tmps[54]?.getD undef = .int .i64 i := hI.get 3 (by decide) (by decide) (hn 3 (by decide))
            have e56 : X.tmps[56]?.getD undef = .int .i64 ((i : Int) + 4) := hI.get 5 (by decide) (by decide) (hn 5 (by decide))
            refine wp_yield (v := .slice (some ⟨gb, i, none⟩) 4 (cap - i)) ?_ ⟨g9, g', c', hI.value (by decide) 6 (by decide) (by decide) rfl (hI.mem.keep (by decide) (by decide) (by decide))⟩
            simp [go_sem, e53, e54, e56, i1, i2, i3, i4, i5, i6, i7, i8, i9]
          case r7 =>
            refine StepAt.mk rfl (ns := [6]) (by kernel_rfl) rfl ?_
            intro L X W h0 hn hI
            obtain ⟨g9, g', c', hI⟩ := hI
            have e57 : X.tmps[57]?.getD undef = .slice (some ⟨gb, i, none⟩) 4 (cap - i) := hI.get 6 (by decide) (by decide) (hn 6 (by decide))
            refine wp_func (v := .int .u64 x) (R := fun w2 => W.grownBy w2 none) (f := 38) (vs := #[.slice (some ⟨gb, i, none⟩) 4 (cap - i)]) ?_ (HCO.out W (HR.out.turn hI.mem.turn (by omega)) (cap - i) (by omega) (by omega)) (fun w2 hg => ⟨g9, g', c', hI.value (by decide) 7 (by decide) (by decide) rfl ((hI.mem.grow hg).keep (by decide) (by decide) (by decide))⟩)
            simp [go_sem, e57]
          case r8 =>
            refine StepAt.mk rfl (ns := [7]) (by kernel_rfl) rfl ?_
            intro L X W h0 hn hI
            obtain ⟨g9, g', c', hI⟩ := hI
            have e58 : X.tmps[58]?.getD undef = .int .u64 x := hI.get 7 (by decide) (by decide) (hn 7 (by decide))
            refine wp_yield (v := .int .u32 x) ?_ ⟨g9, g', c', hI.value (by decide) 8 (by decide) (by decide) rfl (hI.mem.keep (by decide) (by decide) (by decide))⟩
            simp [go_sem, e58, e2]
          case r9 =>
            refine StepAt.mk rfl (ns := [8]) (by kernel_rfl) rfl ?_
            intro L X W h0 hn hI
            obtain ⟨g9, g', c', hI⟩ := hI
            have e59 : X.tmps[59]?.getD undef = .int .u32 x := hI.get 8 (by decide) (by decide) (hn 8 (by decide))
            refine wp_made (v := .slice (some ⟨W.heap.size, 0, none⟩) 1 1) (w' := W.alloc (.cells #[.int .u32 x] 26)) ?_ ⟨W.heap.size, g', c', VI.next hI (fun j hl => v11_9 _ j (fun e => by rw [e, h0] at hl; cases hl)) (by decide) 9 (by decide) (by decide) rfl (hI.mem.made h0)⟩
            simp [go_sem, e59]
          case r10 =>
            refine StepAt.mk rfl (ns := [1, 9, 7]) (by kernel_rfl) rfl ?_
            intro L X W h0 hn hI
            obtain ⟨g9, g', c', hI⟩ := hI
            have hbz : W7.heap.size ≤ W.heap.size := Nat.le_trans HL7.out hI.mem.turn.size
            refine wp_append_own W (.tmp 52) (.tmp 60) 27 rfl W7.heap.size 26 i0 (.int .u32 0) 1 4 Tryd.underlying27 hi hz0 hz1 hz2 rfl (by decide) (.slice a k c) k _ (hI.vals 1 (by decide) (by decide) (hn 1 (by decide))) (hI.mem.own h0) ⟨g9, 0, none⟩ 1 1 [.int .u32 x] (hI.vals 9 (by decide) (by decide) (hn 9 (by decide))) rfl (by intro t u ht; match t, ht with | 0, ht => simp at ht; subst ht; exact hI.mem.lit (hn 9 (by decide)) h0) (by intro u hu; simp at hu; subst hu; rfl) (by unfold maxLen; omega) (by omega) hbz ?_
            intro v' w2 hown hgr _
            obtain ⟨h', d', rfl⟩ := own_shape hown (by omega)
            exact ⟨g9, h', d', VI.next hI (fun j hl => v11_10 _ _ j (fun e => by rw [e, h0] at hl; cases hl)) (by decide) 10 (by decide) (by decide) rfl (hI.mem.appended h0 (hn 1 (by decide)) (hn 9 (by decide)) hg7l hown hgr)⟩
          case r11 =>
            refine StepAt.mk rfl (ns := [0, 1, 2, 3, 4, 5, 6, 7, 8, 9, 10]) (by kernel_rfl) rfl ?_
            intro L X W h0 hn hI
            obtain ⟨g9, g', c', hI⟩ := hI
            have e7 : X.tmps[7]?.getD undef = .pointer (some ⟨g7, 0, none⟩) := hI.old 7 (by decide)
            refine wp_yield (v := .pointer (some ⟨g7, 4, none⟩)) ?_ ⟨g9, g', c', hI.value (by decide) 11 (by decide) (by decide) rfl (hI.mem.keep (by decide) (by decide) (by decide))⟩
            simp [go_sem, e7]
          case r12 =>
            refine StepAt.mk rfl (ns := [11, 10, 10, 0, 1, 2, 3, 4, 5, 6, 7, 8, 9, 10]) (by kernel_rfl) rfl ?_
            intro L X W h0 hn hI
            obtain ⟨g9, g', c', hI⟩ := hI
            exact wp_store_pages rfl (.tmp 62) (.tmp 61) rfl g7 (hI.vals 11 (by decide) (by decide) (hn 11 (by decide))) (some ⟨g', 0, none⟩) (k + 1) c' (hI.vals 10 (by decide) (by decide) (hn 10 (by decide))) ⟨g, x0, x1, x2, ps⟩ a k c (hI.mem.sb h0) (fun w2 hsb ht => ⟨g9, g', c', hI.other 12 (by decide) (hI.mem.stored (hn 10 (by decide)) hg7l hsb ht)⟩)
        · intro L X W hL hI
          replace hL : ∀ i, i < 13 → L i = true := hL
          obtain ⟨g9, g', c', hI⟩ := hI
          have hform := hI.agr.form
          have v51 : At X 51 = .pointer (some ⟨g7, 4, none⟩) := hI.vals 0 (by decide) (by decide) (hL 0 (by omega))
          have v52 : At X 52 = .slice a k c := hI.vals 1 (by decide) (by decide) (hL 1 (by omega))
          have v53 : At X 53 = .slice (some ⟨gb, 0, none⟩) n cap := hI.vals 2 (by decide) (by decide) (hL 2 (by omega))
          have v54 : At X 54 = .int .i64 i := hI.vals 3 (by decide) (by decide) (hL 3 (by omega))
          have v55 : At X 55 = .int .i64 i := hI.vals 4 (by decide) (by decide) (hL 4 (by omega))
          have v56 : At X 56 = .int .i64 ((i : Int) + 4) := hI.vals 5 (by decide) (by decide) (hL 5 (by omega))
          have v57 : At X 57 = .slice (some ⟨gb, i, none⟩) 4 (cap - i) := hI.vals 6 (by decide) (by decide) (hL 6 (by omega))
          have v58 : At X 58 = .int .u64 x := hI.vals 7 (by decide) (by decide) (hL 7 (by omega))
          have v59 : At X 59 = .int .u32 x := hI.vals 8 (by decide) (by decide) (hL 8 (by omega))
          have v60 : At X 60 = .slice (some ⟨g9, 0, none⟩) 1 1 := hI.vals 9 (by decide) (by decide) (hL 9 (by omega))
          have v61 : At X 61 = (.slice (some ⟨g', 0, none⟩) (k + 1) c') := hI.vals 10 (by decide) (by decide) (hL 10 (by omega))
          have v62 : At X 62 = .pointer (some ⟨g7, 4, none⟩) := hI.vals 11 (by decide) (by decide) (hL 11 (by omega))
          have hm := hI.mem
          clear hI
          rw [List.foldl_cons, List.foldl_cons, List.foldl_cons, List.foldl_cons, List.foldl_cons, List.foldl_cons, List.foldl_cons, List.foldl_cons, List.foldl_cons, List.foldl_cons, List.foldl_cons, List.foldl_cons, List.foldl_nil, v51, v52, v53, v54, v55, v56, v57, v58, v59, v60, v61, v62] at hform
          clear v51 v52 v53 v54 v55 v56 v57 v58 v59 v60 v61 v62
          subst hform
          have HR2 : Hid (Reg W gb 0 d) := Lib.hid (HR.out.turn hm.turn (by omega))
          have HO2 : Hid (W.ownsRow W7.heap.size 26 1 (.slice (some ⟨g', 0, none⟩) (k + 1) c') (k + 1) ((ps.take (k + 1)).map (Value.int .u32))) := Lib.hid (by rw [HPK.out]; exact hm.own2 (hL 10 (by omega)))
          have hwW : w.heap.size < W7.heap.size := by omega
          have HG2 : Hid (w.grownBy W none) := Lib.hid (Turn.grown ((grown_turn HG.out).trans hm.turn (fun j h e => by have e2 : W7.heap.size ≤ j ∨ j = g7 := e; omega)))
          have HL2 : Hid (W7.heap.size ≤ W.heap.size) := Lib.hid (Nat.le_trans HL7.out hm.turn.size)
          have HS2 := Lib.hid (hm.sb2 (hL 12 (by omega)))
          have HZ2 : Hid (SB W w.heap.size zeroS none 0 0) := Lib.hid (block_turn HZ.out hm.turn (by omega))
          have HI2 : Hid (i + 4 = 14 + 4 * (k + 1)) := Lib.hid (by have := HI.out; omega)
          clear hm hL HR HO HG HL7 HS HZ HI HPK HCO i1 i2 i3 i4 i5 i6 i7 i8 i9 hwW
          go_wp2
          go_roundw
          case rel => exact ⟨i + 4, k + 1, _, c', HI2, by omega, by go_num, HR2, HO2, HG2, HL2, HS2, HZ2⟩
          case measure => simp [intOf]; omega
      · have q2 : decide ((i : Int) + 4 ≤ (n : Int)) = false := decide_eq_false (by omega)
        have hpl : ps.length = k := by
          rw [HPL.out]
          have := HI.out
          omega
        have htk : ps.take k = ps := List.take_of_length_le (Nat.le_of_eq hpl)
        have hO := HO.out
        rw [htk] at hO
        have hseg := wseg_own hO
        have hnew : ∀ ad, a = some ad → w.heap.size ≤ ad.block := fun ad had => by
          obtain ⟨a2, c2, e2, h2⟩ := own_form1 hO
          cases e2
          have := h2 ad had
          omega
        have hnew2 : ∀ ad, a = some ad → w.heap.size ≠ ad.block := fun ad had => by
          obtain ⟨a2, c2, e2, h2⟩ := own_form1 hO
          cases e2
          have := h2 ad had
          omega
        have HSG := Lib.hid hseg
        have HNW := Lib.hid hnew
        have HNW2 := Lib.hid hnew2
        have HPQ := Lib.hid (rput_sup ⟨g, x0, x1, x2, ps⟩ a k c wr hseg HRO.out)
        have hib : Bs.IsB (putS ⟨g, x0, x1, x2, ps⟩).1 := put_isB
        obtain ⟨⟨pb, pe⟩, hput⟩ : ∃ r, putS ⟨g, x0, x1, x2, ps⟩ = r := ⟨_, rfl⟩
        rw [hput] at HP HPQ hib
        unfold strE at HPQ
        dsimp only at HPQ hib
        obtain ⟨b0, b1, b2, b3, b4⟩ := HS.out.cells
        dsimp only at b0 b1 b2 b3 b4
        have hT9 := fun h => HT9.out pb h hib
        obtain ⟨PS, hPS⟩ : ∃ PS, strOfNums pb = PS := ⟨_, rfl⟩
        have hPSB : pb = B → PS = S := fun h => by rw [← hPS, h, HSB.out]
        rw [hPS] at HPQ hT9
        have HT9 := Lib.hid hT9
        have HPSB := Lib.hid hPSB
        clear hO hseg hnew hnew2 hput hib hT9 hPSB hPS HO HR HL7 htk hpl
        go_wp2_with fail
        refine HPQ.out.mono ?_
        rintro e w7 ⟨rfl, hg⟩
        have HG8 := Lib.hid (grown_then HG.out hg)
        have HS8 := Lib.hid (HS.out.old hg)
        have HZ8 := Lib.hid (HZ.out.old hg)
        have HSG8 := Lib.hid (HSG.out.grown hg)
        clear hg HPQ b0 b1 b2 b3 b4 HG HS HZ HSG
        obtain ⟨b0, b1, b2, b3, b4⟩ := HS8.out.cells
        dsimp only at b0 b1 b2 b3 b4
        dsimp only
        by_cases h1 : pe = 0
        · have r1 : (pe != 0) = false := by rw [h1]; rfl
          by_cases h2 : pb = B
          · have r2 := HPSB.out h2
            have r3 : (S.toList == S.toList) = true := beq_self_eq_true _
            have hR : R = (⟨g, x0, x1, x2, ps⟩, 0) := by rw [HP.out, if_pos (by rw [h1, h2])]
            subst hR
            subst r2
            clear HP h1 h2 HT9 HPSB
            go_wp2_with (first
              | (with_reducible refine wpList_store_super rfl (.tmp 2) (.tmp 76) rfl w.heap.size rfl ⟨g, x0, x1, x2, ps⟩ a k c rfl zeroS none 0 0 HZ8.out ?_; intro w6 hq6 ht6)
              | fail)
            refine bodyPost_ret (run_results_super rfl _ _ _ _ _ _ _ rfl hq6 (.int .i64 0) rfl) rfl ⟨grown_put HG8.out ht6 (Nat.le_refl _), a, k, c, rfl, HSG8.out.kept (grown_some ht6) (fun ad had e => HNW2.out ad had (Option.some.inj e)), HNW.out⟩
          · have r2 := HT9.out h2
            have hR : R = (zeroS, 4) := by rw [HP.out, if_neg (fun h => h2 (congrArg Prod.fst h))]
            subst hR
            clear HP h1 h2 HT9 HPSB
            go_wp2_with (first
              | (with_reducible refine wpList_store_super rfl (.tmp 2) (.tmp 75) rfl w.heap.size rfl zeroS none 0 0 rfl zeroS none 0 0 HZ8.out ?_; intro w6 hq6 ht6)
              | fail)
            refine bodyPost_ret (run_results_super rfl _ _ _ _ _ _ _ rfl hq6 (.int .i64 4) rfl) rfl (GotX.no (grown_put HG8.out ht6 (Nat.le_refl _)))
        · have r1 : (pe != 0) = true := bne_iff_ne.2 h1
          have hR : R = (zeroS, 4) := by rw [HP.out, if_neg (fun h => h1 (congrArg Prod.snd h))]
          subst hR
          clear HP h1 HT9 HPSB
          go_wp2_with (first
            | (with_reducible refine wpList_store_super rfl (.tmp 2) (.tmp 75) rfl w.heap.size rfl zeroS none 0 0 rfl zeroS none 0 0 HZ8.out ?_; intro w6 hq6 ht6)
            | fail)
          refine bodyPost_ret (run_results_super rfl _ _ _ _ _ _ _ rfl hq6 (.int .i64 4) rfl) rfl (GotX.no (grown_put HG8.out ht6 (Nat.le_refl _)))
end Go.Proofs.YtfojkglindpjjaaDoor.Su
namespace Go.Proofs.YtfojkglindpjjaaDoor.Su
open Go.RowKit Bs Dv Gr
open Fr (block_turn)

set_option linter.unusedSimpArgs false in
set_option maxRecDepth 100000 in
set_option maxHeartbeats 4000000 in
theorem rchoose_any (A B : List Int) (w : World) (hA : Bs.IsB A) (hB : Bs.IsB B) (hlA : A.length ≤ 1000000) (hlB : B.length ≤ 1000000) :
    Calls Tryd.prog 22 #[.string (strOfNums A), .string (strOfNums B)] w (ChoseX w (chooseS A B)) := by
  have S0 : SB (w.alloc (.cells #[.int .u64 0, .int .i64 0, .int .i64 0, .int .u32 0, .slice none 0 0] 29)) w.heap.size zeroS none 0 0 := SB.new w zeroS none 0 0
  have G0 := grown_alloc w (.cells #[.int .u64 0, .int .i64 0, .int .i64 0, .int .u32 0, .slice none 0 0] 29)
  obtain ⟨W0, hW0⟩ : ∃ X, w.alloc (.cells #[.int .u64 0, .int .i64 0, .int .i64 0, .int .u32 0, .slice none 0 0] 29) = X := ⟨_, rfl⟩
  rw [hW0] at S0 G0
  have hwl : w.heap.size < W0.heap.size := by rw [← hW0]; simp
  have HS0 := Lib.hid S0
  have HG0 := Lib.hid G0
  have HGA := Lib.hid (fun W => rget_any A W hA hlA)
  have HGB := Lib.hid (fun W => rget_any B W hB hlB)
  obtain ⟨R, hR⟩ : ∃ R, chooseS A B = R := ⟨_, rfl⟩
  have hC : chooseS A B = if (getS A).2 ≠ 0 ∧ (getS B).2 ≠ 0 then (-1, zeroS, 10) else if (getS A).2 ≠ 0 ∨ (getS B).2 = 0 ∧ (getS A).1.gen < (getS B).1.gen then (1, (getS B).1, 0) else (0, (getS A).1, 0) := rfl
  rw [hR] at hC
  rw [hR]
  obtain ⟨⟨t, E⟩, hE⟩ : ∃ r, getS A = r := ⟨_, rfl⟩
  obtain ⟨⟨u, F⟩, hF⟩ : ∃ r, getS B = r := ⟨_, rfl⟩
  rw [hE] at HGA hC
  rw [hF] at HGB hC
  dsimp only at hC
  have HC := Lib.hid hC
  obtain ⟨SA, hSA⟩ : ∃ S, strOfNums A = S := ⟨_, rfl⟩
  obtain ⟨SX, hSX⟩ : ∃ S, strOfNums B = S := ⟨_, rfl⟩
  rw [hSA] at HGA
  rw [hSX] at HGB
  rw [hSA, hSX]
  unfold GotX at HGA HGB
  dsimp only at HGA HGB
  clear hA hB hlA hlB S0 G0 hC hE hF hSA hSX hR
  go_enter Tryd.func22, Tryd.ntmps22
  go_wp2_with fail
  refine (HGA.out _).mono ?_
  rintro e w1 ⟨hg1, p, m, q, rfl, hseg, hnew⟩
  have hg2 := grown_then hg1 (grown_alloc w1 (.cells #[.int .u64 t.gen, .int .i64 t.size, .int .i64 t.blocks, .int .u32 t.root, .slice p m q] 29))
  have HB1 := Lib.hid (SB.new w1 t p m q)
  have HG1 := Lib.hid (grown_then HG0.out hg2)
  have HS1 := Lib.hid (HS0.out.old hg2)
  have HQ1 := Lib.hid (hseg.grown (grown_alloc w1 (.cells #[.int .u64 t.gen, .int .i64 t.size, .int .i64 t.blocks, .int .u32 t.root, .slice p m q] 29)))
  have hz1 : w.heap.size < w1.heap.size := Nat.lt_of_lt_of_le hwl hg1.size
  have HN1 : Hid (∀ ad, p = some ad → w.heap.size < ad.block) := Lib.hid (fun ad had => Nat.lt_of_lt_of_le hwl (hnew ad had))
  clear hg1 hg2 hseg hnew
  dsimp only
  go_upto_region 2 with (fail)
  obtain ⟨W1, hW1⟩ : ∃ X, w1.alloc (.cells #[.int .u64 t.gen, .int .i64 t.size, .int .i64 t.blocks, .int .u32 t.root, .slice p m q] 29) = X := ⟨_, rfl⟩
  have hwl1 : w.heap.size < W1.heap.size := by rw [← hW1, World.size_alloc]; omega
  rw [hW1] at HB1 HG1 HS1 HQ1 ⊢
  clear hW1 HG0 HS0
  go_wp2_with fail
  refine (HGB.out _).mono ?_
  rintro e w2 ⟨hg1, p2, m2, q2, rfl, hseg, hnew⟩
  have hg2 := grown_then hg1 (grown_alloc w2 (.cells #[.int .u64 u.gen, .int .i64 u.size, .int .i64 u.blocks, .int .u32 u.root, .slice p2 m2 q2] 29))
  have HC2 := Lib.hid (SB.new w2 u p2 m2 q2)
  have HB2 := Lib.hid (HB1.out.old hg2)
  have HG2 := Lib.hid (grown_then HG1.out hg2)
  have HS2 := Lib.hid (HS1.out.old hg2)
  have HQ2 := Lib.hid (HQ1.out.grown hg2)
  have HR2 := Lib.hid (hseg.grown (grown_alloc w2 (.cells #[.int .u64 u.gen, .int .i64 u.size, .int .i64 u.blocks, .int .u32 u.root, .slice p2 m2 q2] 29)))
  have hz2 : w.heap.size < w2.heap.size := Nat.lt_of_lt_of_le hwl1 hg1.size
  have HN2 : Hid (∀ ad, p2 = some ad → w.heap.size < ad.block) := Lib.hid (fun ad had => Nat.lt_of_lt_of_le hwl1 (hnew ad had))
  clear hg1 hg2 hseg hnew
  dsimp only
  go_upto_region 3 with (fail)
  obtain ⟨W2, hW2⟩ : ∃ X, w2.alloc (.cells #[.int .u64 u.gen, .int .i64 u.size, .int .i64 u.blocks, .int .u32 u.root, .slice p2 m2 q2] 29) = X := ⟨_, rfl⟩
  rw [hW2] at HC2 HB2 HG2 HS2 HQ2 HR2 ⊢
  clear hW2 HG1 HS1 HB1 HQ1 HGA HGB
  obtain ⟨b0, b1, b2, b3, b4⟩ := HB2.out.cells
  obtain ⟨c0, c1, c2, c3, c4⟩ := HC2.out.cells
  obtain ⟨d0, d1, d2, d3, d4⟩ := HS2.out.cells
  have f0 := HS2.out.froz 0
  have f1 := HS2.out.froz 1
  have f2 := HS2.out.froz 2
  have f3 := HS2.out.froz 3
  have f4 := HS2.out.froz 4
  dsimp only [zeroS] at d0 d1 d2 d3 d4
  by_cases h1 : E = 0
  · subst h1
    by_cases h2 : F = 0
    · subst h2
      by_cases h3 : t.gen < u.gen
      · have r1 : decide (t.gen < u.gen) = true := decide_eq_true h3
        have hR : R = (1, u, 0) := by rw [HC.out, if_neg (fun h => h.1 rfl), if_pos (.inr ⟨rfl, h3⟩)]
        subst hR
        clear h3 HC
        go_wp2
        go_region
        have hz9 := HS2.out.setAll u p2 m2 q2
        have ht9 := turn_set5 W2 w.heap.size (.int .u64 u.gen) (.int .i64 u.size) (.int .i64 u.blocks) (.int .u32 u.root) (.slice p2 m2 q2)
        obtain ⟨W9, hW9⟩ : ∃ V, (((((W2.setCell ⟨w.heap.size, 0, none⟩ (.int .u64 u.gen)).setCell ⟨w.heap.size, 1, none⟩ (.int .i64 u.size)).setCell ⟨w.heap.size, 2, none⟩ (.int .i64 u.blocks)).setCell ⟨w.heap.size, 3, none⟩ (.int .u32 u.root)).setCell ⟨w.heap.size, 4, none⟩ (.slice p2 m2 q2)) = V := ⟨_, rfl⟩
        rw [hW9] at hz9 ht9 ⊢
        have ht10 : Turn W2 W9.drew (· = w.heap.size) := ht9.trans (Turn.drew W9 _) (fun _ _ h => h)
        have HS9 : Hid (SB W9.drew w.heap.size u p2 m2 q2) := Lib.hid hz9
        have HF : Hid (ChoseX w (1, u, 0) (.returned (.tuple #[.int .i64 1, .agg #[.int .u64 u.gen, .int .i64 u.size, .int .i64 u.blocks, .int .u32 u.root, .slice p2 m2 q2], .int .i64 0])) W9.drew) := Lib.hid ⟨grown_put HG2.out ht10 (Nat.le_refl _), p2, m2, q2, rfl,
          HR2.out.kept (grown_some ht10) (fun ad had e => by have h1 := HN2.out ad had; have h2 := Option.some.inj e; omega), fun ad had => Nat.le_of_lt (HN2.out ad had)⟩
        clear hW9 hz9 ht9 ht10 f0 f1 f2 f3 f4 d0 d1 d2 d3 d4 b0 b1 b2 b3 b4 c0 c1 c2 c3 c4
        go_wp2
        exact bodyPost_ret (run_results_mid rfl _ _ w.heap.size u p2 m2 q2 (.int .i64 1) (.int .i64 0) rfl HS9.out rfl rfl) rfl HF.out
      · have r1 : decide (t.gen < u.gen) = false := decide_eq_false h3
        have hR : R = (0, t, 0) := by rw [HC.out, if_neg (fun h => h.1 rfl), if_neg (fun h => h.elim (fun k => k rfl) (fun k => h3 k.2))]
        subst hR
        clear h3 HC
        go_wp2
        go_region
        have hz9 := HS2.out.setAll t p m q
        have ht9 := turn_set5 W2 w.heap.size (.int .u64 t.gen) (.int .i64 t.size) (.int .i64 t.blocks) (.int .u32 t.root) (.slice p m q)
        obtain ⟨W9, hW9⟩ : ∃ V, (((((W2.setCell ⟨w.heap.size, 0, none⟩ (.int .u64 t.gen)).setCell ⟨w.heap.size, 1, none⟩ (.int .i64 t.size)).setCell ⟨w.heap.size, 2, none⟩ (.int .i64 t.blocks)).setCell ⟨w.heap.size, 3, none⟩ (.int .u32 t.root)).setCell ⟨w.heap.size, 4, none⟩ (.slice p m q)) = V := ⟨_, rfl⟩
        rw [hW9] at hz9 ht9 ⊢
        have ht10 : Turn W2 W9.drew (· = w.heap.size) := ht9.trans (Turn.drew W9 _) (fun _ _ h => h)
        have HS9 : Hid (SB W9.drew w.heap.size t p m q) := Lib.hid hz9
        have HF : Hid (ChoseX w (0, t, 0) (.returned (.tuple #[.int .i64 0, .agg #[.int .u64 t.gen, .int .i64 t.size, .int .i64 t.blocks, .int .u32 t.root, .slice p m q], .int .i64 0])) W9.drew) := Lib.hid ⟨grown_put HG2.out ht10 (Nat.le_refl _), p, m, q, rfl,
          HQ2.out.kept (grown_some ht10) (fun ad had e => by have h1 := HN1.out ad had; have h2 := Option.some.inj e; omega), fun ad had => Nat.le_of_lt (HN1.out ad had)⟩
        clear hW9 hz9 ht9 ht10 f0 f1 f2 f3 f4 d0 d1 d2 d3 d4 b0 b1 b2 b3 b4 c0 c1 c2 c3 c4
        go_wp2
        exact bodyPost_ret (run_results_mid rfl _ _ w.heap.size t p m q (.int .i64 0) (.int .i64 0) rfl HS9.out rfl rfl) rfl HF.out
    · have r1 : (F == 0) = false := beq_eq_false_iff_ne.2 h2
      have hR : R = (0, t, 0) := by rw [HC.out, if_neg (fun h => h.1 rfl), if_neg (fun h => h.elim (fun k => k rfl) (fun k => h2 k.1))]
      subst hR
      clear h2 HC
      go_wp2
      go_region
      have hz9 := HS2.out.setAll t p m q
      have ht9 := turn_set5 W2 w.heap.size (.int .u64 t.gen) (.int .i64 t.size) (.int .i64 t.blocks) (.int .u32 t.root) (.slice p m q)
      obtain ⟨W9, hW9⟩ : ∃ V, (((((W2.setCell ⟨w.heap.size, 0, none⟩ (.int .u64 t.gen)).setCell ⟨w.heap.size, 1, none⟩ (.int .i64 t.size)).setCell ⟨w.heap.size, 2, none⟩ (.int .i64 t.blocks)).setCell ⟨w.heap.size, 3, none⟩ (.int .u32 t.root)).setCell ⟨w.heap.size, 4, none⟩ (.slice p m q)) = V := ⟨_, rfl⟩
      rw [hW9] at hz9 ht9 ⊢
      have ht10 : Turn W2 W9.drew (· = w.heap.size) := ht9.trans (Turn.drew W9 _) (fun _ _ h => h)
      have HS9 : Hid (SB W9.drew w.heap.size t p m q) := Lib.hid hz9
      have HF : Hid (ChoseX w (0, t, 0) (.returned (.tuple #[.int .i64 0, .agg #[.int .u64 t.gen, .int .i64 t.size, .int .i64 t.blocks, .int .u32 t.root, .slice p m q], .int .i64 0])) W9.drew) := Lib.hid ⟨grown_put HG2.out ht10 (Nat.le_refl _), p, m, q, rfl,
        HQ2.out.kept (grown_some ht10) (fun ad had e => by have h1 := HN1.out ad had; have h2 := Option.some.inj e; omega), fun ad had => Nat.le_of_lt (HN1.out ad had)⟩
      clear hW9 hz9 ht9 ht10 f0 f1 f2 f3 f4 d0 d1 d2 d3 d4 b0 b1 b2 b3 b4 c0 c1 c2 c3 c4
      go_wp2
      exact bodyPost_ret (run_results_mid rfl _ _ w.heap.size t p m q (.int .i64 0) (.int .i64 0) rfl HS9.out rfl rfl) rfl HF.out
  · have r1 : (E != 0) = true := bne_iff_ne.2 h1
    by_cases h2 : F = 0
    · subst h2
      have hR : R = (1, u, 0) := by rw [HC.out, if_neg (fun h => h.2 rfl), if_pos (.inl h1)]
      subst hR
      clear h1 HC
      go_wp2
      go_region
      have hz9 := HS2.out.setAll u p2 m2 q2
      have ht9 := turn_set5 W2 w.heap.size (.int .u64 u.gen) (.int .i64 u.size) (.int .i64 u.blocks) (.int .u32 u.root) (.slice p2 m2 q2)
      obtain ⟨W9, hW9⟩ : ∃ V, (((((W2.setCell ⟨w.heap.size, 0, none⟩ (.int .u64 u.gen)).setCell ⟨w.heap.size, 1, none⟩ (.int .i64 u.size)).setCell ⟨w.heap.size, 2, none⟩ (.int .i64 u.blocks)).setCell ⟨w.heap.size, 3, none⟩ (.int .u32 u.root)).setCell ⟨w.heap.size, 4, none⟩ (.slice p2 m2 q2)) = V := ⟨_, rfl⟩
      rw [hW9] at hz9 ht9 ⊢
      have ht10 : Turn W2 W9.drew (· = w.heap.size) := ht9.trans (Turn.drew W9 _) (fun _ _ h => h)
      have HS9 : Hid (SB W9.drew w.heap.size u p2 m2 q2) := Lib.hid hz9
      have HF : Hid (ChoseX w (1, u, 0) (.returned (.tuple #[.int .i64 1, .agg #[.int .u64 u.gen, .int .i64 u.size, .int .i64 u.blocks, .int .u32 u.root, .slice p2 m2 q2], .int .i64 0])) W9.drew) := Lib.hid ⟨grown_put HG2.out ht10 (Nat.le_refl _), p2, m2, q2, rfl,
        HR2.out.kept (grown_some ht10) (fun ad had e => by have h1 := HN2.out ad had; have h2 := Option.some.inj e; omega), fun ad had => Nat.le_of_lt (HN2.out ad had)⟩
      clear hW9 hz9 ht9 ht10 f0 f1 f2 f3 f4 d0 d1 d2 d3 d4 b0 b1 b2 b3 b4 c0 c1 c2 c3 c4
      go_wp2
      exact bodyPost_ret (run_results_mid rfl _ _ w.heap.size u p2 m2 q2 (.int .i64 1) (.int .i64 0) rfl HS9.out rfl rfl) rfl HF.out
    · have r2 : (F != 0) = true := bne_iff_ne.2 h2
      have hR : R = (-1, zeroS, 10) := by rw [HC.out, if_pos ⟨h1, h2⟩]
      subst hR
      clear h1 h2 HC b0 b1 b2 b3 b4 c0 c1 c2 c3 c4 d0 d1 d2 d3 d4 f0 f1 f2 f3 f4
      go_wp2_with (first
        | (with_reducible refine wpList_store_super rfl (.tmp 5) (.tmp 28) rfl w.heap.size rfl zeroS none 0 0 rfl zeroS none 0 0 HS2.out ?_; intro w6 hq6 ht6)
        | fail)
      exact bodyPost_ret (run_results_mid rfl _ _ w.heap.size zeroS none 0 0 (.int .i64 (-1)) (.int .i64 10) rfl hq6 rfl rfl) rfl ⟨grown_put HG2.out ht6 (Nat.le_refl _), none, 0, 0, rfl, Ws.Seg.nil _, fun _ h => by cases h⟩
end Go.Proofs.YtfojkglindpjjaaDoor.Su
namespace Go.Proofs.YtfojkglindpjjaaDoor.Su
open Go.RowKit Bs Dv Gr
open Fr (strE block_turn)

set_option linter.unusedSimpArgs false in
set_option maxRecDepth 100000 in
set_option maxHeartbeats 8000000 in
theorem calls_any (s : Sup) (a : Option Addr) (n c : Nat) (l1 l2 : List Int) (gs gb slot : Int) (w : World) (hs : Ws.Seg w a n c s.pages) (ho : SupOk s) (hl1 : Bs.IsB l1) (hl2 : Bs.IsB l2) (hT : T4 w) :
    Calls Tryd.prog 4 #[.agg #[.int .u64 s.gen, .int .i64 s.size, .int .i64 s.blocks, .int .u32 s.root, .slice a n c], .string (strOfNums l1), .string (strOfNums l2), .agg #[.int .i64 gs, .int .i64 gb], .int .i64 slot] w fun e w' => e = .returned (.bool true) ∧ w.grownBy w' none := by
  have g1 := grown_alloc w (.cells #[.int .u64 s.gen, .int .i64 s.size, .int .i64 s.blocks, .int .u32 s.root, .slice a n c] 29)
  have s1 := SB.new w s a n c
  obtain ⟨W0, hW0⟩ : ∃ X, w.alloc (.cells #[.int .u64 s.gen, .int .i64 s.size, .int .i64 s.blocks, .int .u32 s.root, .slice a n c] 29) = X := ⟨_, rfl⟩
  rw [hW0] at g1 s1
  have g2 := grown_alloc W0 (.cells #[.int .i64 gs, .int .i64 gb] 25)
  have s2 := heap_alloc_new W0 (.cells #[.int .i64 gs, .int .i64 gb] 25)
  have s3 := s1.old g2
  obtain ⟨W1, hW1⟩ : ∃ X, W0.alloc (.cells #[.int .i64 gs, .int .i64 gb] 25) = X := ⟨_, rfl⟩
  rw [hW1] at g2 s2 s3
  have HG0 := Lib.hid (grown_then g1 g2)
  have HB0 := Lib.hid s3
  have HD0 := Lib.hid s2
  have HT := Lib.hid hT
  have HLV := Lib.hid (lives_any W1 (hT.grown HG0.out))
  have HPS := Lib.hid (fun W (k : w.grownBy W none) => put_sup s a n c W (hs.grown k) ho (hT.grown k))
  have HPR := Lib.hid (fun W (k : w.grownBy W none) => rput_sup s a n c W (hs.grown k) ho)
  have HCK := Lib.hid (fun W (k : w.grownBy W none) => check_sup s a n c W (hs.grown k) ho)
  have HRC := Lib.hid (fun W (k : w.grownBy W none) => rcheck_sup s a n c W (hs.grown k) ho)
  obtain ⟨⟨PA, E1⟩, hpa⟩ : ∃ r, putS s = r := ⟨_, rfl⟩
  rw [hpa] at HPS HPR
  unfold strE at HPS HPR
  dsimp only at HPS HPR
  obtain ⟨E0, hE0⟩ : ∃ E0, supE s = E0 := ⟨_, rfl⟩
  rw [hE0] at HCK HRC
  obtain ⟨TA, hTA⟩ : ∃ S, strOfNums PA = S := ⟨_, rfl⟩
  rw [hTA] at HPS HPR
  have hz1 : (strOfNums l1).size = l1.length := strOfNums_size l1
  have hz2 : (strOfNums l2).size = l2.length := strOfNums_size l2
  have HG1 := Lib.hid (fun (k : l1.length ≤ 600) W (hT : T4 W) => get_any l1 W hl1 (Nat.le_trans k (by decide)) hT)
  have HR1 := Lib.hid (fun (k : l1.length ≤ 600) W => rget_any l1 W hl1 (Nat.le_trans k (by decide)))
  have HC1 := Lib.hid (fun (k : l1.length ≤ 600) (k2 : l2.length ≤ 600) W (hT : T4 W) => choose_any l1 l2 W hl1 hl2 (Nat.le_trans k (by decide)) (Nat.le_trans k2 (by decide)) hT)
  have HD1 := Lib.hid (fun (k : l1.length ≤ 600) (k2 : l2.length ≤ 600) W => rchoose_any l1 l2 W hl1 hl2 (Nat.le_trans k (by decide)) (Nat.le_trans k2 (by decide)))
  obtain ⟨⟨u, E2⟩, hu⟩ : ∃ r, getS l1 = r := ⟨_, rfl⟩
  rw [hu] at HG1 HR1
  obtain ⟨⟨j, z, E3⟩, hz⟩ : ∃ r, chooseS l1 l2 = r := ⟨_, rfl⟩
  rw [hz] at HC1 HD1
  obtain ⟨T1, hT1⟩ : ∃ S, strOfNums l1 = S := ⟨_, rfl⟩
  obtain ⟨T2, hT2⟩ : ∃ S, strOfNums l2 = S := ⟨_, rfl⟩
  rw [hT1] at HG1 HR1 HC1 HD1 hz1
  rw [hT2] at HC1 HD1 hz2
  rw [hT1, hT2]
  obtain ⟨L1, hL1⟩ : ∃ L, l1.length = L := ⟨_, rfl⟩
  obtain ⟨L2, hL2⟩ : ∃ L, l2.length = L := ⟨_, rfl⟩
  rw [hL1] at HG1 HR1 HC1 HD1 hz1
  rw [hL2] at HC1 HD1 hz2
  unfold GotX at HG1 HR1
  unfold ChoseX at HC1 HD1
  dsimp only at HG1 HR1 HC1 HD1
  have HO := Lib.hid (fun W => (other_any slot W).mono fun e w2 (h : _ ∧ _) => (show e = .returned (.int .i64 (if slot = 0 then 1 else 0)) ∧ W.grownBy w2 none from ⟨h.1, by rw [← h.2]; exact grown_refl _⟩))
  have HP := Lib.hid (fun W => (rother_any slot W).mono fun e w2 (h : _ ∧ _) => (show e = .returned (.int .i64 (if slot = 0 then 1 else 0)) ∧ W.grownBy w2 none from ⟨h.1, by rw [← h.2]; exact grown_refl _⟩))
  obtain ⟨os, hos⟩ : ∃ x : Int, (if slot = 0 then 1 else 0) = x := ⟨_, rfl⟩
  rw [hos] at HO HP
  have HQ := Lib.hid (fun W => pages_any gs gb W)
  have HV := Lib.hid (fun W => rpages_any gs gb W)
  obtain ⟨pf, hpf⟩ : ∃ x, pagesF gs gb = x := ⟨_, rfl⟩
  rw [hpf] at HQ HV
  have hle := hs.le
  have hcap := hs.cap
  unfold maxLen at hcap
  clear hpa hE0 hTA hu hz hT1 hT2 hL1 hL2 hos hpf hl1 hl2 ho hs g1 g2 s1 s2 s3 hT
  go_enter Tryd.func4, Tryd.ntmps4
  go_wp2_with fail
  refine HLV.out.mono ?_
  rintro e w1 ⟨rfl, hg⟩
  have G1 := Lib.hid (grown_then HG0.out hg)
  have HB1 := Lib.hid (HB0.out.old hg)
  have HD2 := Lib.hid (block_old HD0.out hg)
  clear hg HLV HB0 HD0 HG0 hW0 hW1
  dsimp only
  obtain ⟨a0, a1, a2, a3, a4⟩ := HB1.out.cells
  by_cases h1 : 40 < n
  · have q1 : decide ((40 : Int) < (n : Int)) = true := decide_eq_true (by omega)
    clear h1
    go_wp2
    go_ret
    exact ⟨rfl, G1.out⟩
  have q1 : decide ((40 : Int) < (n : Int)) = false := decide_eq_false (by omega)
  by_cases h2 : 600 < L1
  · have q2 : decide ((600 : Int) < (L1 : Int)) = true := decide_eq_true (by omega)
    clear h1 h2
    go_wp2
    go_ret
    exact ⟨rfl, G1.out⟩
  have q2 : decide ((600 : Int) < (L1 : Int)) = false := decide_eq_false (by omega)
  by_cases h3 : 600 < L2
  · have q3 : decide ((600 : Int) < (L2 : Int)) = true := decide_eq_true (by omega)
    clear h1 h2 h3
    go_wp2
    go_ret
    exact ⟨rfl, G1.out⟩
  have q3 : decide ((600 : Int) < (L2 : Int)) = false := decide_eq_false (by omega)
  have HG4 := Lib.hid (HG1.out (by omega))
  have HR4 := Lib.hid (HR1.out (by omega))
  have HC4 := Lib.hid (HC1.out (by omega) (by omega))
  have HD4 := Lib.hid (HD1.out (by omega) (by omega))
  clear h1 h2 h3 HG1 HR1 HC1 HD1
  go_wp2_with fail
  refine (HPS.out _ G1.out).mono ?_
  rintro e w2 ⟨rfl, hg⟩
  have G2 := Lib.hid (grown_then G1.out hg)
  have HB2 := Lib.hid (HB1.out.old hg)
  have HD3 := Lib.hid (block_old HD2.out hg)
  clear hg HPS G1 HB1 HD2 a0 a1 a2 a3 a4 q1 q2 q3 hz1 hz2
  dsimp only
  obtain ⟨a0, a1, a2, a3, a4⟩ := HB2.out.cells
  go_wp2_with fail
  refine (HPR.out _ G2.out).mono ?_
  rintro e w3 ⟨rfl, hg⟩
  have G3 := Lib.hid (grown_then G2.out hg)
  have HB3 := Lib.hid (HB2.out.old hg)
  have HD5 := Lib.hid (block_old HD3.out hg)
  clear hg HPR G2 HB2 HD3 a0 a1 a2 a3 a4
  dsimp only
  go_wp2_with fail
  refine (HG4.out _ (HT.out.grown G3.out)).mono ?_
  rintro e w4 ⟨hg, pu, mu, qu, rfl, hseg, -⟩
  have hg2 := grown_then hg (grown_alloc w4 (.cells #[.int .u64 u.gen, .int .i64 u.size, .int .i64 u.blocks, .int .u32 u.root, .slice pu mu qu] 29))
  have G4 := Lib.hid (grown_then G3.out hg2)
  have HB4 := Lib.hid (HB3.out.old hg2)
  have HD6 := Lib.hid (block_old HD5.out hg2)
  have HXu_4 := Lib.hid (SB.new w4 u pu mu qu)
  have HSu_4 := Lib.hid (hseg.grown (grown_alloc w4 (.cells #[.int .u64 u.gen, .int .i64 u.size, .int .i64 u.blocks, .int .u32 u.root, .slice pu mu qu] 29)))
  clear hg hg2 hseg HG4 G3 HB3 HD5
  dsimp only
  go_upto_region 8 with (fail)
  obtain ⟨W4, hW4⟩ : ∃ X, w4.alloc (.cells #[.int .u64 u.gen, .int .i64 u.size, .int .i64 u.blocks, .int .u32 u.root, .slice pu mu qu] 29) = X := ⟨_, rfl⟩
  rw [hW4] at G4 HB4 HD6 HXu_4 HSu_4 ⊢
  clear hW4
  go_wp2_with fail
  refine (HR4.out _).mono ?_
  rintro e w5 ⟨hg, pv, mv, qv, rfl, hseg, -⟩
  have hg2 := grown_then hg (grown_alloc w5 (.cells #[.int .u64 u.gen, .int .i64 u.size, .int .i64 u.blocks, .int .u32 u.root, .slice pv mv qv] 29))
  have G5 := Lib.hid (grown_then G4.out hg2)
  have HB5 := Lib.hid (HB4.out.old hg2)
  have HD7 := Lib.hid (block_old HD6.out hg2)
  have HXv_5 := Lib.hid (SB.new w5 u pv mv qv)
  have HSv_5 := Lib.hid (hseg.grown (grown_alloc w5 (.cells #[.int .u64 u.gen, .int .i64 u.size, .int .i64 u.blocks, .int .u32 u.root, .slice pv mv qv] 29)))
  have HXu_5 := Lib.hid (HXu_4.out.old hg2)
  have HSu_5 := Lib.hid (HSu_4.out.grown hg2)
  clear HXu_4 HSu_4
  clear hg hg2 hseg HR4 G4 HB4 HD6
  dsimp only
  go_upto_region 9 with (fail)
  obtain ⟨W5, hW5⟩ : ∃ X, w5.alloc (.cells #[.int .u64 u.gen, .int .i64 u.size, .int .i64 u.blocks, .int .u32 u.root, .slice pv mv qv] 29) = X := ⟨_, rfl⟩
  rw [hW5] at G5 HB5 HD7 HXu_5 HSu_5 HXv_5 HSv_5 ⊢
  clear hW5
  go_wp2_with fail
  refine (HC4.out _ (HT.out.grown G5.out)).mono ?_
  rintro e w6 ⟨hg, pt, mt, qt, rfl, hseg, -⟩
  have hg2 := grown_then hg (grown_alloc w6 (.cells #[.int .u64 z.gen, .int .i64 z.size, .int .i64 z.blocks, .int .u32 z.root, .slice pt mt qt] 29))
  have G6 := Lib.hid (grown_then G5.out hg2)
  have HB6 := Lib.hid (HB5.out.old hg2)
  have HD8 := Lib.hid (block_old HD7.out hg2)
  have HXt_6 := Lib.hid (SB.new w6 z pt mt qt)
  have HSt_6 := Lib.hid (hseg.grown (grown_alloc w6 (.cells #[.int .u64 z.gen, .int .i64 z.size, .int .i64 z.blocks, .int .u32 z.root, .slice pt mt qt] 29)))
  have HXu_6 := Lib.hid (HXu_5.out.old hg2)
  have HSu_6 := Lib.hid (HSu_5.out.grown hg2)
  clear HXu_5 HSu_5
  have HXv_6 := Lib.hid (HXv_5.out.old hg2)
  have HSv_6 := Lib.hid (HSv_5.out.grown hg2)
  clear HXv_5 HSv_5
  clear hg hg2 hseg HC4 G5 HB5 HD7
  dsimp only
  go_upto_region 10 with (fail)
  obtain ⟨W6, hW6⟩ : ∃ X, w6.alloc (.cells #[.int .u64 z.gen, .int .i64 z.size, .int .i64 z.blocks, .int .u32 z.root, .slice pt mt qt] 29) = X := ⟨_, rfl⟩
  rw [hW6] at G6 HB6 HD8 HXu_6 HSu_6 HXv_6 HSv_6 HXt_6 HSt_6 ⊢
  clear hW6
  go_wp2_with fail
  refine (HD4.out _).mono ?_
  rintro e w7 ⟨hg, py, my, qy, rfl, hseg, -⟩
  have hg2 := grown_then hg (grown_alloc w7 (.cells #[.int .u64 z.gen, .int .i64 z.size, .int .i64 z.blocks, .int .u32 z.root, .slice py my qy] 29))
  have G7 := Lib.hid (grown_then G6.out hg2)
  have HB7 := Lib.hid (HB6.out.old hg2)
  have HD9 := Lib.hid (block_old HD8.out hg2)
  have HXy_7 := Lib.hid (SB.new w7 z py my qy)
  have HSy_7 := Lib.hid (hseg.grown (grown_alloc w7 (.cells #[.int .u64 z.gen, .int .i64 z.size, .int .i64 z.blocks, .int .u32 z.root, .slice py my qy] 29)))
  have HXu_7 := Lib.hid (HXu_6.out.old hg2)
  have HSu_7 := Lib.hid (HSu_6.out.grown hg2)
  clear HXu_6 HSu_6
  have HXv_7 := Lib.hid (HXv_6.out.old hg2)
  have HSv_7 := Lib.hid (HSv_6.out.grown hg2)
  clear HXv_6 HSv_6
  have HXt_7 := Lib.hid (HXt_6.out.old hg2)
  have HSt_7 := Lib.hid (HSt_6.out.grown hg2)
  clear HXt_6 HSt_6
  clear hg hg2 hseg HD4 G6 HB6 HD8
  dsimp only
  go_upto_region 11 with (fail)
  obtain ⟨W7, hW7⟩ : ∃ X, w7.alloc (.cells #[.int .u64 z.gen, .int .i64 z.size, .int .i64 z.blocks, .int .u32 z.root, .slice py my qy] 29) = X := ⟨_, rfl⟩
  rw [hW7] at G7 HB7 HD9 HXu_7 HSu_7 HXv_7 HSv_7 HXt_7 HSt_7 HXy_7 HSy_7 ⊢
  clear hW7
  have HSA := Lib.hid (fun q : Gw W7 => same_yes u pu pv mu qu mv qv q.at_ (HSu_7.out.grown q.grown) (HSv_7.out.grown q.grown))
  have HSB := Lib.hid (fun q : Gw W7 => same_yes z pt py mt qt my qy q.at_ (HSt_7.out.grown q.grown) (HSy_7.out.grown q.grown))
  have HC := Lib.hid (fun q : Gw W7 => HCK.out q.at_ (grown_then G7.out q.grown))
  have HR := Lib.hid (fun q : Gw W7 => HRC.out q.at_ (grown_then G7.out q.grown))
  have HG := Lib.hid (fun q : Gw W7 => block_old HD9.out q.grown)
  have x0 : ∀ q : Gw W7, q.at_.cell? ⟨W0.heap.size, 0, none⟩ = some (.int .i64 gs) := fun q => by rw [cell_of_row _ _ _ _ _ _ (HG.out q)]; rfl
  have x1 : ∀ q : Gw W7, q.at_.cell? ⟨W0.heap.size, 1, none⟩ = some (.int .i64 gb) := fun q => by rw [cell_of_row _ _ _ _ _ _ (HG.out q)]; rfl
  obtain ⟨a0, a1, a2, a3, a4⟩ := HB7.out.gw
  obtain ⟨b0, b1, b2, b3, b4⟩ := HXu_7.out.gw
  obtain ⟨c0, c1, c2, c3, c4⟩ := HXv_7.out.gw
  obtain ⟨d0, d1, d2, d3, d4⟩ := HXt_7.out.gw
  obtain ⟨f0, f1, f2, f3, f4⟩ := HXy_7.out.gw
  have e1 : (TA.toList == TA.toList) = true := beq_self_eq_true _
  have e2 : (E1 == E1) = true := beq_self_eq_true _
  have e3 : (E2 == E2) = true := beq_self_eq_true _
  have e4 : (E3 == E3) = true := beq_self_eq_true _
  have e5 : (j == j) = true := beq_self_eq_true _
  have e6 : (E0 == E0) = true := beq_self_eq_true _
  have e7 : (pf == pf) = true := beq_self_eq_true _
  have e8 : (os == os) = true := beq_self_eq_true _
  clear HCK HRC HB7 HD9 HXu_7 HXv_7 HXt_7 HXy_7 HSu_7 HSv_7 HSt_7 HSy_7 HG
  refine wp_region_grow (by kernel_rfl) ?_
  repeat (go_big_quiet_step (first | (go_at_call 15; first | (with_reducible exact Calls.grow_of (HSA.out _)) | (with_reducible exact Calls.grow_of (HSB.out _))) | (go_at_call 16; with_reducible exact Calls.grow_of (HC.out _)) | (go_at_call 23; with_reducible exact Calls.grow_of (HR.out _)) | (go_at_call 18; with_reducible exact Calls.grow_of (HQ.out _)) | (go_at_call 24; with_reducible exact Calls.grow_of (HV.out _)) | (go_at_call 17; with_reducible exact Calls.grow_of (HO.out _)) | (go_at_call 25; with_reducible exact Calls.grow_of (HP.out _)) | fail))
  refine wpQuiet_nil ?_
  rintro _ ⟨pw, rfl⟩
  have HGF := Lib.hid (grown_then G7.out pw.grown)
  clear x0 x1 a0 a1 a2 a3 a4 b0 b1 b2 b3 b4 c0 c1 c2 c3 c4 d0 d1 d2 d3 d4 f0 f1 f2 f3 f4
  go_wp2
  go_ret
  exact ⟨rfl, HGF.out⟩
end Go.Proofs.YtfojkglindpjjaaDoor.Su
