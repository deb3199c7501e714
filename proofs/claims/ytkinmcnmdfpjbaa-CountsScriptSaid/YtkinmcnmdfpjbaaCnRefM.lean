/-
  The document's count of pages, its New, Pages, Load.
-/
import Derived.Test.YtkinmcnmdfpjbaaCnAll
import Derived.Test.YtkinmcnmdfpjbaaGeo
import Derived.BigRegion
import Derived.Test.YtkinmcnmdfpjbaaCnPages
import Derived.Test.YtkinmcnmdfpjbaaRef1
import Derived.Test.YtkinmcnmdfpjbaaCnLoadM
namespace Go.Proofs.Ytkinmcnmdfpjbaa.Cn
open Go.RowKit Bs Dv Gr
open Su (GeoOk geo_iff pagesF pages_no geo_room pages_bounds)
open Fr (room)

set_option maxHeartbeats 1000000 in
theorem rpg_any (size blocks : Int) (w : World) : Calls Try.prog 35 #[.agg #[.int .i64 size, .int .i64 blocks]] w fun e w' => e = .returned (.int .i64 (pagesF size blocks)) ∧ w.grownBy w' none := by
  have B0 := heap_alloc_new w (.cells #[.int .i64 size, .int .i64 blocks] 28)
  have G0 := grown_alloc w (.cells #[.int .i64 size, .int .i64 blocks] 28)
  have HC := Lib.hid (fun W => (rcheck_any size blocks W).mono fun e w' (h : _ ∧ _) => (show e = .returned (.int .i64 (geoE size blocks)) ∧ W.grownBy w' none from ⟨h.1, h.2.grown⟩))
  have HB0 := Lib.hid B0
  have HG0 := Lib.hid G0
  obtain ⟨E, hE⟩ : ∃ E, geoE size blocks = E := ⟨_, rfl⟩
  rw [hE] at HC
  by_cases h : GeoOk size blocks
  · have h0 : E = 0 := by rw [← hE]; exact (geo_iff _ _).2 h
    have hr := geo_room h
    have hp := pages_bounds h
    have HR := Lib.hid (fun W => Fr.rroom_any size W)
    have HP : Hid (pagesF size blocks = (2 * blocks + room size - 1) / room size) := Lib.hid (if_pos h)
    unfold GeoOk at h
    rw [hr] at HP HR
    obtain ⟨r, hrr⟩ : ∃ r, size - 16 = r := ⟨_, rfl⟩
    rw [hrr] at HP HR
    have hr1 : 112 ≤ r ∧ r ≤ 4080 := by omega
    have HQ : Hid ((2 * blocks + r - 1).tdiv r = pagesF size blocks) := Lib.hid (by rw [HP.out]; exact Int.tdiv_eq_ediv_of_nonneg (by omega))
    obtain ⟨q, hq⟩ : ∃ q, pagesF size blocks = q := ⟨_, rfl⟩
    rw [hq] at HQ hp ⊢
    have e1 : IntKind.i64.wrap (2 * blocks) = 2 * blocks := IntWalk.i64_in _ (by omega)
    have e2 : IntKind.i64.wrap (2 * blocks + r) = 2 * blocks + r := IntWalk.i64_in _ (by omega)
    have e3 : IntKind.i64.wrap (2 * blocks + r - 1) = 2 * blocks + r - 1 := IntWalk.i64_in _ (by omega)
    have e4 : IntKind.i64.wrap q = q := IntWalk.i64_in _ (by omega)
    have e5 := HQ.out
    clear hE hr hrr hq B0 G0 HP HQ
    have hb0 : (0 : Int) ≤ blocks := by omega
    clear hp h
    subst h0
    go_enter Try.func35, Try.ntmps35
    go_wp2_with fail
    refine (HC.out _).mono ?_
    rintro e W1 ⟨rfl, hgg⟩
    have HB1 := Lib.hid (block_old HB0.out hgg)
    have HG1 := Lib.hid (grown_then HG0.out hgg)
    clear hgg HB0 HG0
    dsimp only
    have c0 : W1.cell? ⟨w.heap.size, 0, none⟩ = some (.int .i64 size) := by rw [cell_of_row _ _ _ _ _ _ HB1.out]; rfl
    go_wp2_with fail
    refine (HR.out _).mono ?_
    rintro e w2 ⟨rfl, hg⟩
    have HB2 := Lib.hid (block_old HB1.out hg)
    have HG2 := Lib.hid (grown_then HG1.out hg)
    clear hg HB1 HG1 c0
    dsimp only
    have c1 : w2.cell? ⟨w.heap.size, 1, none⟩ = some (.int .i64 blocks) := by rw [cell_of_row _ _ _ _ _ _ HB2.out]; rfl
    have hne : ¬ r = 0 := by omega
    go_wp2
    go_ret
    exact ⟨rfl, HG2.out⟩
  · have h0 : E ≠ 0 := by rw [← hE]; exact fun q => h ((geo_iff _ _).1 q)
    have q0 : (E != 0) = true := bne_iff_ne.2 h0
    rw [pages_no h]
    clear h hE h0
    go_enter Try.func35, Try.ntmps35
    go_wp2_with fail
    refine (HC.out _).mono ?_
    rintro e w1 ⟨rfl, hgg⟩
    have HG1 := Lib.hid (grown_then HG0.out hgg)
    clear hgg HB0 HG0 B0 G0
    dsimp only
    go_wp2
    go_ret
    exact ⟨rfl, HG1.out⟩


/-- What the document's New hands back. -/
def RNewX (w : World) (size blocks : Int) (e : Ending) (w' : World) : Prop :=
  w.grownBy w' none ∧ ((¬ GeoOk size blocks ∧ e = .returned (.tuple #[.pointer none, .int .i64 2])) ∨
    ∃ n : Nat, GeoOk size n ∧ blocks = n ∧ ∃ g h cap, e = .returned (.tuple #[.pointer (some ⟨g, 0, none⟩), .int .i64 0]) ∧ RC w' g h cap size (newC n) ∧ w.heap.size ≤ g ∧ w.heap.size ≤ h ∧ cap ≤ maxLen)
set_option maxHeartbeats 2000000 in
theorem rnew_any (size blocks : Int) (w : World) : Calls Try.prog 21 #[.agg #[.int .i64 size, .int .i64 blocks]] w (RNewX w size blocks) := by
  have B0 := heap_alloc_new w (.cells #[.int .i64 size, .int .i64 blocks] 28)
  have G0 := grown_alloc w (.cells #[.int .i64 size, .int .i64 blocks] 28)
  have HC := Lib.hid (fun W => (rcheck_any size blocks W).mono fun e w' (h : _ ∧ _) => (show e = .returned (.int .i64 (geoE size blocks)) ∧ W.grownBy w' none from ⟨h.1, h.2.grown⟩))
  have HB0 := Lib.hid B0
  have HG0 := Lib.hid G0
  by_cases h : GeoOk size blocks
  · have hE : geoE size blocks = 0 := (geo_iff _ _).2 h
    rw [hE] at HC
    obtain ⟨n, rfl⟩ : ∃ n : Nat, blocks = n := Int.eq_ofNat_of_zero_le (by unfold GeoOk at h; omega)
    have HGE := Lib.hid h
    have hn : 8 ≤ n ∧ n ≤ 4096 := by unfold GeoOk at h; omega
    have hmk := make_roomJ n (by omega)
    have HMR := Lib.hid (fun W => made_rowJ W n)
    clear h hE B0 G0
    go_enter Try.func21, Try.ntmps21
    go_wp2_with fail
    refine (HC.out _).mono ?_
    rintro e w1 ⟨rfl, hg⟩
    have HB1 := Lib.hid (block_old HB0.out hg)
    have HG1 := Lib.hid (grown_then HG0.out hg)
    have hw1 : w.heap.size < w1.heap.size := by have := hg.size; simp [World.size_alloc] at this; omega
    clear hg HB0 HG0
    dsimp only
    have c0 : w1.cell? ⟨w.heap.size, 0, none⟩ = some (.int .i64 size) := by rw [cell_of_row _ _ _ _ _ _ HB1.out]; rfl
    have c1 : w1.cell? ⟨w.heap.size, 1, none⟩ = some (.int .i64 (n : Int)) := by rw [cell_of_row _ _ _ _ _ _ HB1.out]; rfl
    go_upto_region 3 with (fail)
    go_region
    have HR2 : Hid (RC (((w1.alloc (.cells (roomJ n) 3)).alloc (.cells #[.int .i64 size, .int .i64 (n : Int), .slice (some ⟨w1.heap.size, 0, none⟩) n n] 56)).drew) (w1.heap.size + 1) w1.heap.size n size (List.replicate n 0)) := Lib.hid (by
      have b1 := heap_alloc_new (w1.alloc (.cells (roomJ n) 3)) (.cells #[.int .i64 size, .int .i64 (n : Int), .slice (some ⟨w1.heap.size, 0, none⟩) n n] 56)
      rw [World.size_alloc] at b1
      have r1 := (HMR.out w1).turn (Turn.alloc (w1.alloc (.cells (roomJ n) 3)) (.cells #[.int .i64 size, .int .i64 (n : Int), .slice (some ⟨w1.heap.size, 0, none⟩) n n] 56) nowhere) id
      exact ⟨by rw [List.length_replicate]; exact b1, r1, by omega, by rw [List.length_replicate]; exact Nat.le_refl _, by rw [List.length_replicate]; exact hn.2⟩)
    have HG2 : Hid (w.grownBy (((w1.alloc (.cells (roomJ n) 3)).alloc (.cells #[.int .i64 size, .int .i64 (n : Int), .slice (some ⟨w1.heap.size, 0, none⟩) n n] 56)).drew) none) := Lib.hid (grown_then HG1.out (grown_then (grown_then (grown_alloc _ _) (grown_alloc _ _)) (grown_drew _)))
    obtain ⟨W2, hW2⟩ : ∃ X, ((w1.alloc (.cells (roomJ n) 3)).alloc (.cells #[.int .i64 size, .int .i64 (n : Int), .slice (some ⟨w1.heap.size, 0, none⟩) n n] 56)).drew = X := ⟨_, rfl⟩
    rw [hW2] at HR2 HG2 ⊢
    clear hW2 hmk HMR
    have d2 : W2.cell? ⟨w1.heap.size + 1, 2, none⟩ = some (.slice (some ⟨w1.heap.size, 0, none⟩) n n) := by
      have := HR2.out.box
      rw [List.length_replicate] at this
      rw [cell_of_row _ _ _ _ _ _ this]; rfl
    obtain ⟨r0, f0⟩ := HR2.out.row 0 (by rw [List.length_replicate]; omega)
    obtain ⟨r1, f1⟩ := HR2.out.row 1 (by rw [List.length_replicate]; omega)
    obtain ⟨x0, hx0⟩ : ∃ x, (List.replicate n (0 : Int)).getD 0 0 = x := ⟨_, rfl⟩
    obtain ⟨x1, hx1⟩ : ∃ x, (List.replicate n (0 : Int)).getD 1 0 = x := ⟨_, rfl⟩
    rw [hx0] at r0
    rw [hx1] at r1
    clear hx0 hx1
    go_upto_region 4 with (fail)
    go_region
    have HX : Hid (RNewX w size n (.returned (.tuple #[.pointer (some ⟨w1.heap.size + 1, 0, none⟩), .int .i64 0])) (((W2.setCell ⟨w1.heap.size, 0, none⟩ (.int .i64 1)).setCell ⟨w1.heap.size, 1, none⟩ (.int .i64 1)).drew)) := Lib.hid (by
      have q0 := HR2.out.set 0 1 (by rw [List.length_replicate]; omega)
      have q1 := q0.1.set 1 1 (by rw [List.length_set, List.length_replicate]; omega)
      have q2 := q1.1.turn (Turn.drew _ nowhere) id id
      have e : ((List.replicate n (0 : Int)).set 0 1).set 1 1 = newC n := by
        have h0 : List.replicate n (0 : Int) = onesC n 0 := rfl
        rw [h0, ones_set n 0 (by omega), ones_set n 1 (by omega)]
        rfl
      rw [e] at q2
      have hg := HG1.out.size
      exact ⟨grown_put HG2.out ((q0.2.trans q1.2 (fun _ _ e => e)).trans (Turn.drew _ (· = w1.heap.size)) (fun _ _ e => e)) hg, .inr ⟨n, HGE.out, rfl, w1.heap.size + 1, w1.heap.size, n, rfl, q2, by omega, hg, by unfold maxLen; omega⟩⟩)
    obtain ⟨W3, hW3⟩ : ∃ X, ((W2.setCell ⟨w1.heap.size, 0, none⟩ (.int .i64 1)).setCell ⟨w1.heap.size, 1, none⟩ (.int .i64 1)).drew = X := ⟨_, rfl⟩
    rw [hW3] at HX ⊢
    clear hW3 d2 r0 r1 f0 f1 HR2
    go_wp2
    go_ret2
    exact HX.out
  · have hE : geoE size blocks = 2 := geo_two h
    rw [hE] at HC
    have HNO := Lib.hid h
    clear h hE B0 G0
    go_enter Try.func21, Try.ntmps21
    go_wp2_with fail
    refine (HC.out _).mono ?_
    rintro e w1 ⟨rfl, hg⟩
    have HX : Hid (RNewX w size blocks (.returned (.tuple #[.pointer none, .int .i64 2])) w1) := Lib.hid ⟨grown_then HG0.out hg, .inl ⟨HNO.out, rfl⟩⟩
    clear hg
    dsimp only
    go_wp2
    go_ret2
    exact HX.out
end Go.Proofs.Ytkinmcnmdfpjbaa.Cn
namespace Go.Proofs.Ytkinmcnmdfpjbaa.Cn
open Go.RowKit Bs Dv Gr
open Su (GeoOk pagesF)
open Oct (putB)

theorem own_turnG {w w' : World} {base e size n : Nat} {v : Value} {xs : List Value} {S : Nat → Prop} (h : w.ownsRow base e size v n xs) (k : Turn w w' S) (hv : ∀ i, v.ownBlock = some i → ¬ S i) : w'.ownsRow base e size v n xs := by
  refine ⟨h.1, ?_⟩
  rcases h.2 with h2 | ⟨g, cap, cur, e1, h3, h4, h5⟩
  · exact .inl h2
  · refine .inr ⟨g, cap, cur, e1, h3, ?_, h5⟩
    rw [k.block g (Array.getElem?_eq_some_iff.1 h4).1 (hv g (by rw [e1]; rfl))]
    exact h4
theorem turn_from {w w' : World} {B : Nat} (h : Below B w w') : Turn w w' (fun i => B ≤ i) := ⟨h.os, h.tape, h.output, h.size, fun k _ hn => h.block k (Nat.lt_of_not_le hn)⟩
theorem own_lt {w : World} {base e size n : Nat} {v : Value} {xs : List Value} (h : w.ownsRow base e size v n xs) : ∀ i, v.ownBlock = some i → i < w.heap.size := by
  intro i hi
  rcases h.2 with ⟨rfl, _⟩ | ⟨g, cap, cur, rfl, _, hg, _⟩
  · cases hi
  · have : g = i := by simpa [Value.ownBlock] using hi
    subst this
    exact (Array.getElem?_eq_some_iff.1 hg).1
theorem bytes_snoc2 (l : List Int) (k : Nat) (hk : k < l.length) (x : Int) (hx : l.getD k 0 = x) : bytesC (l.take (k + 1)) = bytesC (l.take k) ++ putB 2 x := by rw [← hx]; exact bytes_snoc l k hk
theorem piece_len (N : List Int) (n each k : Nat) (hl : N.length = n) : ((N.drop (k * each)).take each).length = pieceL n each k := by unfold pieceL; rw [List.length_take, List.length_drop, hl]
theorem piece_at (N : List Int) (each k j : Nat) (hj : j < each) : ((N.drop (k * each)).take each).getD j 0 = N.getD (k * each + j) 0 := by
  rw [List.getD_eq_getElem?_getD, List.getElem?_take_of_lt hj, List.getElem?_drop, ← List.getD_eq_getElem?_getD]

theorem own_form1 {w : World} {base e n : Nat} {v : Value} {xs : List Value} (h : w.ownsRow base e 1 v n xs) (h0 : 0 < n) : ∃ g c, v = .slice (some ⟨g, 0, none⟩) n c ∧ base ≤ g := by
  rcases h.2 with ⟨rfl, rfl⟩ | ⟨g, c, cur, rfl, hb, _⟩
  · omega
  · exact ⟨g, c, rfl, hb⟩
set_option maxRecDepth 100000 in
set_option maxHeartbeats 8000000 in
theorem rpagesC_any (g h cap : Nat) (size : Int) (n : Nat) (N : List Int) (w : World) (hc : RC w g h cap size N) (ho : CnOk size n N) :
    Calls Try.prog 32 #[.pointer (some ⟨g, 0, none⟩)] w (PagesX w (pagesL (eachC size) n N)) := by
  obtain ⟨i0, hi, hz0, hz1, hz2⟩ := info_parts Ss.info_str
  have hln := ho.len
  have hgeo := ho.geo
  obtain ⟨hpl, hpf⟩ := pages_pieces hgeo N hln
  have he := (each_pos hgeo).1
  have hn : 8 ≤ n ∧ n ≤ 4096 := by unfold GeoOk at hgeo; omega
  have hp74 := pieces_le he hn.2
  have hpos : 0 < piecesC n (eachC size) := (pieces_lt n _ 0 (by omega)).2 (by omega)
  have HRM := Lib.hid (fun W => Fr.rroom_any size W)
  have hroom := (each_pos hgeo).2
  have he2 : eachC size ≤ 4096 := by
    have h2 := Su.geo_room hgeo
    have h3 := hgeo.2.1
    omega
  have c0 : w.cell? ⟨g, 0, none⟩ = some (.int .i64 size) := by rw [cell_of_row _ _ _ _ _ _ hc.box]; rfl
  have HRC := Lib.hid hc
  have HGL : Hid (g < w.heap.size ∧ h < w.heap.size) := Lib.hid ⟨block_lt hc.box, World.block_lt_of_cell? w _ (hc.row 0 (by omega)).1⟩
  have HLN := Lib.hid hln
  have hncap : n ≤ cap := by have := hc.le; omega
  have HNX : Hid (∀ j, 0 ≤ N.getD j 0 ∧ N.getD j 0 < 65536) := Lib.hid (fun j => by
    rw [List.getD_eq_getElem?_getD]
    by_cases hk : j < N.length
    · rw [List.getElem?_eq_getElem hk]; exact ho.cnt _ (List.getElem_mem hk)
    · rw [List.getElem?_eq_none (by omega)]; decide)
  obtain ⟨rm, hrm⟩ : ∃ rm, Fr.room size = rm := ⟨_, rfl⟩
  rw [hrm] at HRM hroom
  obtain ⟨each, hea⟩ : ∃ each, eachC size = each := ⟨_, rfl⟩
  rw [hea] at hpl he hp74 hpos he2 hroom ⊢
  have hdiv : rm.tdiv 2 = (each : Int) := by rw [Int.tdiv_eq_ediv_of_nonneg (by omega)]; omega
  have hw1 : IntKind.i64.wrap (each : Int) = (each : Int) := IntWalk.i64_in _ (by omega)
  have HLT := Lib.hid (fun k => pieces_lt n each k (by omega))
  have HGET := Lib.hid (fun k (hk : k * each < n) => pages_get each (by omega) n k N (by omega) (by omega))
  have HPN := Lib.hid (fun k => piece_len N n each k hln)
  have HPA := Lib.hid (fun k j (hj : j < each) => piece_at N each k j hj)
  obtain ⟨p, hp⟩ : ∃ p, piecesC n each = p := ⟨_, rfl⟩
  rw [hp] at hpl hp74 hpos HLT
  have HPL := Lib.hid hpl
  clear hc ho hpl hp hea hgeo hln hrm hroom hpf
  go_enter Try.func32, Try.ntmps32
  go_wp2_with fail
  refine (HRM.out _).mono ?_
  rintro e w1 ⟨rfl, hg⟩
  have HB1 : Hid (Below w.heap.size w w1) := Lib.hid (grown_below hg)
  clear hg c0
  dsimp only
  go_wp2
  clear hdiv hw1
  go_loopw [4, 5] (fun s4 s5 wr => ∃ (k o : Nat) (V : Value), s5 = .int .i64 o ∧ V = s4 ∧ o ≤ 8192 ∧ Hid (k * each = o) ∧ Hid (k ≤ p) ∧ Hid (wr.ownsRow w.heap.size 9 1 V k (((pagesL each n N).take k).map Ss.encW)) ∧ Hid (Below w.heap.size w wr)) (fun _ s5 _ => n - (intOf s5).toNat)
  case atStart => exact ⟨0, 0, _, rfl, rfl, by omega, Lib.hid (Nat.zero_mul _), Lib.hid (Nat.zero_le _), Lib.hid (World.ownsRow_nil _ _ _ _), HB1⟩
  case round =>
    obtain ⟨k, o, V, rfl, rfl, ho8, HO, HKP, HV, HB⟩ := hrel
    have HR := Lib.hid (HRC.out.turn (turn_from HB.out) (by have := HGL.out.1; omega) (by have := HGL.out.2; omega))
    have c2 : wr.cell? ⟨g, 2, none⟩ = some (.slice (some ⟨h, 0, none⟩) n cap) := by rw [cell_of_row _ _ _ _ _ _ HR.out.box, ← HLN.out]; rfl
    by_cases hlt : o < n
    · have hq : decide (o < n) = true := decide_eq_true hlt
      have HKL : Hid (k < p) := Lib.hid ((HLT.out k).2 (by rw [HO.out]; exact hlt))
      have hget := HGET.out k (by rw [HO.out]; exact hlt)
      have HTK : Hid ((pagesL each n N).take (k + 1) = (pagesL each n N).take k ++ [bytesC ((N.drop (k * each)).take each)]) := Lib.hid (by
        obtain ⟨h1, h2⟩ := List.getElem?_eq_some_iff.1 hget
        rw [List.take_succ_eq_append_getElem h1, h2])
      have HPN2 := Lib.hid (HPN.out k)
      have HPA2 := Lib.hid (fun j hj => HPA.out k j hj)
      obtain ⟨pc, hpc⟩ : ∃ pc, (N.drop (k * each)).take each = pc := ⟨_, rfl⟩
      rw [hpc] at HTK HPN2 HPA2
      rw [HO.out] at HPA2
      have hpl : pieceL n each k = min each (n - o) := by unfold pieceL; rw [HO.out]
      rw [hpl] at HPN2
      obtain ⟨q, hq2⟩ : ∃ q, min each (n - o) = q := ⟨_, rfl⟩
      rw [hq2] at HPN2
      have hqb : q ≤ each ∧ o + q ≤ n ∧ 1 ≤ q ∧ (q < each → o + q = n) := by omega
      have HO1 : Hid ((k + 1) * each = o + each) := Lib.hid (by rw [Nat.add_mul, HO.out, Nat.one_mul])
      clear hget hpc hpl hq2
      go_wp2
      clear c2
      obtain ⟨oe, hoe⟩ : ∃ x, o + each = x := ⟨_, rfl⟩
      have e1 : (o : Int) + (each : Int) = (oe : Int) := by omega
      have e2 : IntKind.i64.wrap (oe : Int) = (oe : Int) := IntWalk.i64_in _ (by omega)
      have hoe2 : oe ≤ 16384 := by omega
      have HOE := Lib.hid hoe
      have hqb2 : o + q ≤ oe ∧ (o + q < n → o + q = oe) := by omega
      clear hoe
      obtain ⟨wp, rfl⟩ : ∃ x, x = wr := ⟨wr, rfl⟩
      go_loopw [6, 7] (fun s6 s7 w2 => ∃ (j t : Nat) (V6 : Value), s7 = .int .i64 (t : Int) ∧ V6 = s6 ∧ o ≤ t ∧ t ≤ o + q ∧ Hid (o + j = t) ∧ Hid (w2.ownsRow wp.heap.size 5 1 V6 (2 * j) ((bytesC (pc.take j)).map (Value.int .u8))) ∧ Hid (Below wp.heap.size wp w2)) (fun _ s7 _ => o + q - (intOf s7).toNat)
      case atStart => exact ⟨0, o, _, rfl, rfl, by omega, by omega, Lib.hid rfl, Lib.hid (World.ownsRow_nil _ _ _ _), Lib.hid (Below.refl _ _)⟩
      case round =>
        obtain ⟨j, t, V6, rfl, rfl, ht1, ht2, HJ, H6, HB2⟩ := hrel
        have hh2 : h < wp.heap.size := by have := HGL.out.2; have := HB.out.size; omega
        have hg2 : g < wp.heap.size := by have := HGL.out.1; have := HB.out.size; omega
        have HR2 := Lib.hid (HR.out.turn (turn_from HB2.out) (by omega) (by omega))
        have c2 : wr.cell? ⟨g, 2, none⟩ = some (.slice (some ⟨h, 0, none⟩) n cap) := by rw [cell_of_row _ _ _ _ _ _ HR2.out.box, ← HLN.out]; rfl
        by_cases htq : t < o + q
        · have k1 : decide (t < n) = true := decide_eq_true (by omega)
          have k2 : decide (t < oe) = true := decide_eq_true (by omega)
          have htn : t < n := by omega
          have hcell := (HR2.out.row t (by rw [HLN.out]; exact htn)).1
          have hx := HNX.out t
          have hpa := HPA2.out j (by have := HJ.out; omega)
          rw [HJ.out] at hpa
          have HBS := Lib.hid (fun x (e : pc.getD j 0 = x) => bytes_snoc2 pc j (by rw [HPN2.out]; have := HJ.out; omega) x e)
          obtain ⟨x, hxx⟩ : ∃ x, N.getD t 0 = x := ⟨_, rfl⟩
          rw [hxx] at hcell hx hpa
          have HBS2 := Lib.hid (HBS.out x hpa)
          have e3 : IntKind.u64.wrap x = x := by rw [IntKind.wrap_u64]; omega
          have hj4 : j ≤ 4096 := by have := HJ.out; omega
          have HPU := Lib.hid (Ref1.rput_any wp.heap.size V6 (2 * j) (bytesC (pc.take j)) x 2 wr H6.out HB2.out.size hx.1 (by omega) (by decide) (by decide) (by omega))
          clear hxx hx hpa HBS
          go_wp2_with fail
          refine HPU.out.mono ?_
          rintro e w3 ⟨g3, c3, rfl, hown, hbel⟩
          have H63 : Hid (w3.ownsRow wp.heap.size 5 1 (.slice (some ⟨g3, 0, none⟩) (2 * j + 2) c3) (2 * (j + 1)) ((bytesC (pc.take (j + 1))).map (Value.int .u8))) := Lib.hid (by rw [HBS2.out]; exact hown)
          have HB3 := Lib.hid (HB2.out.trans hbel)
          have HJ1 : Hid (o + (j + 1) = t + 1) := Lib.hid (by have := HJ.out; omega)
          clear hown hbel HPU H6 HB2
          dsimp only
          go_wp2
          go_roundw
          case rel => exact ⟨j + 1, t + 1, _, by go_num, rfl, by omega, by omega, HJ1, H63, HB3⟩
          case measure => simp [intOf]; omega
        · obtain rfl : t = o + q := by omega
          obtain rfl : j = q := by have := HJ.out; omega
          obtain ⟨g6, c6, rfl, hb6⟩ := own_form1 H6.out (by omega)
          have hcv := conv_any g6 0 (2 * j) c6 (bytesC pc) wr (by
            have h := H6.out
            rw [List.take_of_length_le (by rw [HPN2.out]; exact Nat.le_refl _)] at h
            exact Reg.own h) (by rw [bytes_len, HPN2.out])
          obtain ⟨S, hS⟩ : ∃ S, strOfNums (bytesC pc) = S := ⟨_, rfl⟩
          rw [hS] at hcv
          have HS := Lib.hid hS
          have HVW : Hid (wr.ownsRow w.heap.size 9 1 V k (((pagesL each n N).take k).map Ss.encW)) := Lib.hid (own_turnG HV.out (turn_from HB2.out) (fun i hi => by have := own_lt HV.out i hi; omega))
          have HBW := Lib.hid (HB.out.trans ⟨HB2.out.os, HB2.out.tape, HB2.out.output, HB2.out.size, fun i hi => HB2.out.block i (Nat.lt_of_lt_of_le hi HB.out.size)⟩)
          have hbw : w.heap.size ≤ wr.heap.size := HBW.out.size
          have hkp : k ≤ 74 := by have := HKL.out; omega
          have hwoe : IntKind.i64.wrap (oe : Int) = (oe : Int) := e2
          have HOE2 : Hid ((k + 1) * each = oe) := Lib.hid (by rw [HO1.out, HOE.out])
          have HKL2 : Hid (k + 1 ≤ p) := Lib.hid (by have := HKL.out; omega)
          clear hS H6 HB2 HV HB HR2
          by_cases hst : o + j < n
          · have k1 : decide (o + j < n) = true := decide_eq_true hst
            have hoj : o + j = oe := hqb2.2 hst
            have k2 : decide ((oe : Int) < (oe : Int)) = false := decide_eq_false (by omega)
            have k3 : decide (oe < oe) = false := decide_eq_false (by omega)
            rw [hoj] at hst k1 ⊢
            go_wp2_with (at_builtin; refine wpList_append_own _ rfl (.tmp 52) (.tmp 55) 37 rfl w.heap.size 9 i0 (.string ⟨#[]⟩) 1 16 Try.underlying37 hi hz0 hz1 hz2 rfl (by decide) V k (((pagesL each n N).take k).map Ss.encW) rfl (HVW.out.alloc _) ⟨wr.heap.size, 0, none⟩ 1 1 [.string S] rfl rfl (by intro t u ht; match t, ht with | 0, ht => simp at ht; subst ht; simp [Addr.add]) (by intro u hu; simp at hu; subst hu; rfl) (by unfold maxLen; omega) (by omega) (by simp; omega) ?_; intro v' w3 hown1 hgrow1 _)
            go_roundw
            case rel =>
              refine ⟨k + 1, oe, v', by go_num, rfl, by omega, HOE2, HKL2, Lib.hid ?_, Lib.hid ((HBW.out.alloc hbw _).grown hgrow1 (by simp; omega) (fun i e => (HVW.out.lt i e).1))⟩
              rw [HTK.out, List.map_append]
              have e : Ss.encW (bytesC pc) = .string S := by rw [← HS.out]; rfl
              rw [List.map_cons, List.map_nil, e]
              exact hown1
            case measure => simp [intOf]; omega
          · have k1 : decide (o + j < n) = false := decide_eq_false hst
            have e5 : (o : Int) + (j : Int) = ((o + j : Nat) : Int) := by omega
            obtain ⟨t, ht⟩ : ∃ t, o + j = t := ⟨_, rfl⟩
            rw [ht] at hst k1 ⊢
            clear e5 ht
            go_wp2_with (at_builtin; refine wpList_append_own _ rfl (.tmp 52) (.tmp 55) 37 rfl w.heap.size 9 i0 (.string ⟨#[]⟩) 1 16 Try.underlying37 hi hz0 hz1 hz2 rfl (by decide) V k (((pagesL each n N).take k).map Ss.encW) rfl (HVW.out.alloc _) ⟨wr.heap.size, 0, none⟩ 1 1 [.string S] rfl rfl (by intro t u ht; match t, ht with | 0, ht => simp at ht; subst ht; simp [Addr.add]) (by intro u hu; simp at hu; subst hu; rfl) (by unfold maxLen; omega) (by omega) (by simp; omega) ?_; intro v' w3 hown1 hgrow1 _)
            go_roundw
            case rel =>
              refine ⟨k + 1, oe, v', by go_num, rfl, by omega, HOE2, HKL2, Lib.hid ?_, Lib.hid ((HBW.out.alloc hbw _).grown hgrow1 (by simp; omega) (fun i e => (HVW.out.lt i e).1))⟩
              rw [HTK.out, List.map_append]
              have e : Ss.encW (bytesC pc) = .string S := by rw [← HS.out]; rfl
              rw [List.map_cons, List.map_nil, e]
              exact hown1
            case measure => simp [intOf]; omega
    · have hq : decide (o < n) = false := decide_eq_false hlt
      have HKE : Hid (k = p) := Lib.hid (by
        have h1 := HKP.out
        by_cases h2 : k < p
        · have := (HLT.out k).1 h2; rw [HO.out] at this; omega
        · omega)
      have hv := HV.out
      rw [HKE.out, List.take_of_length_le (by rw [HPL.out]; exact Nat.le_refl _)] at hv
      obtain ⟨a, c, rfl, hbase⟩ := own_form1 hv (by omega)
      have HF : Hid (PagesX w (pagesL each n N) (.returned (.slice (some ⟨a, 0, none⟩) p c)) wr) := Lib.hid ⟨⟨HB.out.os, HB.out.tape, HB.out.output, HB.out.size, fun i hi _ => HB.out.block i hi⟩, a, c, by rw [HPL.out], by rw [HPL.out]; exact Ss.Seg.own hv, hbase⟩
      clear hv HV hbase
      go_wp2
      go_ret
      exact HF.out
end Go.Proofs.Ytkinmcnmdfpjbaa.Cn
namespace Go.Proofs.Ytkinmcnmdfpjbaa.Cn
open Go.RowKit Bs Dv Gr
open Su (GeoOk pagesF)
open Oct (ofB)

/-- What the document's Load hands back. -/
def RLoadX (w : World) (size blocks : Int) (ps : List (List Int)) (e : Ending) (w' : World) : Prop :=
  w.grownBy w' none ∧ ((¬ GeoOk size blocks ∧ e = .returned (.tuple #[.pointer none, .int .i64 2])) ∨ ∃ n : Nat, blocks = n ∧ GeoOk size n ∧
    (((loadC size n ps).2 = 4 ∧ e = .returned (.tuple #[.pointer none, .int .i64 4])) ∨
     ((loadC size n ps).2 = 0 ∧ ∃ g h cap, e = .returned (.tuple #[.pointer (some ⟨g, 0, none⟩), .int .i64 0]) ∧ RC w' g h cap size (loadC size n ps).1 ∧ w.heap.size ≤ g ∧ w.heap.size ≤ h ∧ cap ≤ maxLen)))
theorem of_two (b : List Int) (k : Nat) (h : 2 * k + 2 ≤ b.length) : ofB ((b.drop (2 * k)).take 2) = b.getD (2 * k) 0 + 256 * b.getD (2 * k + 1) 0 := by
  have e : (b.drop (2 * k)).take 2 = [b.getD (2 * k) 0, b.getD (2 * k + 1) 0] := by
    rw [List.drop_eq_getElem_cons (by omega), List.drop_eq_getElem_cons (by omega), List.getD_eq_getElem?_getD, List.getD_eq_getElem?_getD, List.getElem?_eq_getElem (by omega), List.getElem?_eq_getElem (by omega)]
    rfl
  rw [e]
  simp [ofB]
  try omega
theorem seg_cell {w : World} {ag ao n c : Nat} {l : List (List Int)} (h : Ss.Seg w (some ⟨ag, ao, none⟩) n c l) (j : Nat) (hj : j < n) : w.cell? ⟨ag, ao + j, none⟩ = some (.string (strOfNums (l.getD j []))) := by
  have hl := h.len
  have h1 := h.at_ _ rfl j (Ss.encW (l.getD j [])) (by rw [List.getElem?_map, List.getElem?_eq_getElem (by omega), List.getD_eq_getElem?_getD, List.getElem?_eq_getElem (by omega)]; rfl)
  rw [Addr.add_lit] at h1
  exact h1

set_option maxRecDepth 100000 in
set_option maxHeartbeats 8000000 in
theorem rload_any (size blocks : Int) (a : Option Addr) (m pc : Nat) (ps : List (List Int)) (w : World) (hs : Ss.Seg w a m pc ps) (hb : ∀ p ∈ ps, IsB p ∧ p.length ≤ 140737488355328) :
    Calls Try.prog 34 #[.agg #[.int .i64 size, .int .i64 blocks], .slice a m pc] w (RLoadX w size blocks ps) := by
  obtain rfl : ps.length = m := hs.len
  have HB0 := Lib.hid (heap_alloc_new w (.cells #[.int .i64 size, .int .i64 blocks] 28))
  have HG0 := Lib.hid (grown_alloc w (.cells #[.int .i64 size, .int .i64 blocks] 28))
  obtain ⟨W0, hW0⟩ : ∃ X, w.alloc (.cells #[.int .i64 size, .int .i64 blocks] 28) = X := ⟨_, rfl⟩
  rw [hW0] at HB0 HG0
  have HW0 := Lib.hid hW0
  have hlm : (ps.length : Int) ≤ 9223372036854775807 := by
    have h1 := hs.le
    have h2 := hs.cap
    unfold maxLen at h2
    omega
  have HNA := Lib.hid (rnew_any size blocks W0)
  by_cases hok : GeoOk size blocks
  case neg =>
    have HOK := Lib.hid hok
    clear hok hW0 hlm
    go_enter Try.func34, Try.ntmps34
    go_upto_region 1 with (fail)
    rw [HW0.out]
    have c0 : W0.cell? ⟨w.heap.size, 0, none⟩ = some (.int .i64 size) := by rw [cell_of_row _ _ _ _ _ _ HB0.out]; rfl
    have c1 : W0.cell? ⟨w.heap.size, 1, none⟩ = some (.int .i64 blocks) := by rw [cell_of_row _ _ _ _ _ _ HB0.out]; rfl
    go_wp2_with fail
    refine HNA.out.mono ?_
    rintro e w2 ⟨hg, ⟨-, rfl⟩ | ⟨n, hn, rfl, -⟩⟩
    · have HF : Hid (RLoadX w size blocks ps (.returned (.tuple #[.pointer none, .int .i64 2])) w2) := Lib.hid ⟨grown_then HG0.out hg, .inl ⟨HOK.out, rfl⟩⟩
      clear hg
      dsimp only
      go_wp2
      go_ret2
      exact HF.out
    · exact absurd hn HOK.out
  case pos =>
  obtain ⟨n, rfl⟩ : ∃ n : Nat, blocks = n := Int.eq_ofNat_of_zero_le (by unfold GeoOk at hok; omega)
  have HPG := Lib.hid (fun W => rpg_any size n W)
  have hpp := (pages_pieces hok (List.replicate n 0) (by rw [List.length_replicate])).2
  have HLC := Lib.hid (fun (q : (ps.length : Int) ≠ pagesF size n) => load_count (ps := ps) hok q)
  have HS := Lib.hid (hs.grown HG0.out)
  have HOK := Lib.hid hok
  have HPP := Lib.hid hpp
  have he := (each_pos hok).1
  have hn : 8 ≤ n ∧ n ≤ 4096 := by unfold GeoOk at hok; omega
  have hpos : 0 < piecesC n (eachC size) := (pieces_lt n _ 0 (by omega)).2 (by omega)
  have hp74 := pieces_le he hn.2
  have he2 : eachC size ≤ 4096 := by
    have h1 := (each_pos hok).2
    have h2 := Su.geo_room hok
    have h3 := hok.2.1
    omega
  obtain ⟨P, hP⟩ : ∃ P, pagesF size n = P := ⟨_, rfl⟩
  rw [hP] at HPG HLC HPP
  clear hW0 hs hP hpp
  go_enter Try.func34, Try.ntmps34
  go_upto_region 1 with (fail)
  rw [HW0.out]
  have c0 : W0.cell? ⟨w.heap.size, 0, none⟩ = some (.int .i64 size) := by rw [cell_of_row _ _ _ _ _ _ HB0.out]; rfl
  have c1 : W0.cell? ⟨w.heap.size, 1, none⟩ = some (.int .i64 (n : Int)) := by rw [cell_of_row _ _ _ _ _ _ HB0.out]; rfl
  go_wp2_with fail
  refine HNA.out.mono ?_
  rintro e w2 ⟨hg, ⟨hno, -⟩ | ⟨n', hn', hnn, g, h, cap, rfl, hc, hlg, hlh, hcm⟩⟩
  · exact absurd hok hno
  obtain rfl : n = n' := by omega
  have HC2 := Lib.hid hc
  have HG2 := Lib.hid hg
  have HB2 := Lib.hid (block_old HB0.out hg)
  have HS2 := Lib.hid (HS.out.grown hg)
  have HL2 := Lib.hid (⟨hlg, hlh⟩ : W0.heap.size ≤ g ∧ W0.heap.size ≤ h)
  have HCM := Lib.hid hcm
  have d0 : w2.cell? ⟨w.heap.size, 0, none⟩ = some (.int .i64 size) := by rw [cell_of_row _ _ _ _ _ _ HB2.out]; rfl
  have d1 : w2.cell? ⟨w.heap.size, 1, none⟩ = some (.int .i64 (n : Int)) := by rw [cell_of_row _ _ _ _ _ _ HB2.out]; rfl
  clear hc hg hlg hlh c0 c1 hn' hnn HNA hcm
  dsimp only
  go_wp2_with fail
  refine (HPG.out _).mono ?_
  rintro e w3 ⟨rfl, hg⟩
  have HC3 := Lib.hid (HC2.out.turn (grown_turn hg) id id)
  have HS3 := Lib.hid (HS2.out.grown hg)
  have HG3 := Lib.hid (grown_then HG2.out hg)
  clear hg d0 d1 HC2 HS2 HB2 HG2
  dsimp only
  by_cases hpq : (ps.length : Int) = P
  case neg =>
    have k1 : ((ps.length : Int) != P) = true := bne_iff_ne.2 hpq
    have HF : Hid (RLoadX w size n ps (.returned (.tuple #[.pointer none, .int .i64 4])) w3) := Lib.hid ⟨grown_then HG0.out HG3.out, .inr ⟨n, rfl, HOK.out, .inl ⟨by rw [HLC.out hpq], rfl⟩⟩⟩
    obtain ⟨ln, hln⟩ : ∃ l, ps.length = l := ⟨_, rfl⟩
    rw [hln] at k1 hpq hlm ⊢
    clear hln hpq
    go_wp2
    go_ret2
    exact HF.out
  have k1 : ((ps.length : Int) != P) = false := by rw [hpq]; simp
  have HEQ : Hid (ps.length = piecesC n (eachC size)) := Lib.hid (by have := HPP.out; omega)
  have HRPG := Lib.hid (rpagesC_any g h cap size n (newC n) w3 HC3.out (new_ok hok))
  have HWL : Hid ((pagesL (eachC size) n (newC n)).length = piecesC n (eachC size) ∧ ∀ j, j < piecesC n (eachC size) → ((pagesL (eachC size) n (newC n)).getD j []).length = 2 * pieceL n (eachC size) j) := Lib.hid (by
    have h1 := (pages_pieces hok (newC n) (new_ok hok).len).1
    refine ⟨h1, fun j hj => ?_⟩
    have h2 := pages_get (eachC size) (by omega) n j (newC n) (by rw [(new_ok hok).len]; exact Nat.le_refl _) (by rw [(new_ok hok).len]; exact (pieces_lt n _ j (by omega)).1 hj)
    rw [List.getD_eq_getElem?_getD, h2]
    show (bytesC _).length = _
    rw [bytes_len, piece_len (newC n) n (eachC size) j (new_ok hok).len])
  have HBAD := Lib.hid (fun q => load_bad (ps := ps) hok HEQ.out q)
  have HTWO := Lib.hid (fun q => load_two (ps := ps) hok HEQ.out q)
  have HRS := Lib.hid (fun k hk hl => rowK_succ (n := n) (each := eachC size) (by omega) HEQ.out (N0 := newC n) k hk hl)
  have HRE := Lib.hid (rowK_end (n := n) (each := eachC size) (by omega) HEQ.out (N0 := newC n) (new_ok hok).len)
  have HRL := Lib.hid (fun k hk hl => rowK_len (n := n) (each := eachC size) (by omega) HEQ.out (N0 := newC n) (new_ok hok).len k hk hl)
  have HRZ := Lib.hid (rowK_zero n (eachC size) ps (newC n))
  have HNL := Lib.hid ((new_ok hok).len)
  unfold PagesX at HRPG
  rw [HWL.out.1] at HRPG
  obtain ⟨each, hea⟩ : ∃ each, eachC size = each := ⟨_, rfl⟩
  rw [hea] at HRPG HEQ HWL he he2 hpos hp74 HBAD HTWO HRS HRE HRL HRZ
  obtain ⟨p, hp⟩ : ∃ p, piecesC n each = p := ⟨_, rfl⟩
  have HPE := Lib.hid hp
  rw [hp] at HRPG HEQ HWL hpos hp74 HBAD HTWO HRS HRE HRL
  obtain ⟨Q, hQ⟩ : ∃ Q, pagesL each n (newC n) = Q := ⟨_, rfl⟩
  rw [hQ] at HRPG HWL
  have HSA : Hid (∃ ag ao, a = some ⟨ag, ao, none⟩) := Lib.hid (by
    obtain ⟨ag, ao, e1, _⟩ := HS3.out.addr (by rw [HEQ.out]; exact hpos)
    exact ⟨ag, ao, e1⟩)
  obtain ⟨ag, ao, rfl⟩ := HSA.out
  have HAG : Hid (ag < W0.heap.size) := Lib.hid (by
    have h1 := seg_cell HS.out 0 (by rw [HEQ.out]; exact hpos)
    exact World.block_lt_of_cell? W0 _ h1)
  rw [HEQ.out] at k1 HS HS3 ⊢
  clear hpq hea hp hQ hlm hok
  have hsl := HS3.out.le
  go_wp2_with fail
  refine HRPG.out.mono ?_
  rintro e w4 ⟨hg, b, c, rfl, hsq, hlb⟩
  have HC4 := Lib.hid (HC3.out.turn (grown_turn hg) id id)
  have HS4 := Lib.hid (HS3.out.grown hg)
  have HG4 := Lib.hid (grown_then HG3.out hg)
  have HQ4 := Lib.hid hsq
  have HBH : Hid (b ≠ h ∧ ag ≠ h) := Lib.hid ⟨by have := World.block_lt_of_cell? w3 _ (HC3.out.row 0 (by rw [HNL.out]; omega)).1; have e2 : h < w3.heap.size := this; omega, by have := HL2.out.2; have := HAG.out; omega⟩
  have hql := hsq.le
  clear hg hsq hlb HC3 HS3 HG3 HRPG HNL
  dsimp only
  have HBQ := Lib.hid hb
  have hgh := HC4.out.ne
  have HGH := Lib.hid hgh
  have HLTN := Lib.hid (fun k => pieces_lt n each k (by omega))
  rw [HPE.out] at HLTN
  have HOS := Lib.hid (fun k (hk : k * each < n) => off_succ (n := n) (each := each) hk)
  have HOA := Lib.hid (fun k (hk : k * each < n) => off_at (n := n) (each := each) hk)
  have HFIN : Hid (∀ W, Turn w4 W (· = h) → w.grownBy W none) := Lib.hid (fun W t => grown_then HG0.out (grown_put HG4.out t HL2.out.2))
  clear hb hgh
  go_wp2
  go_loopw [9, 10] (fun s9 s10 wr => ∃ (k t : Nat), s10 = .int .i64 (k : Int) ∧ s9 = .int .i64 (t : Int) ∧ k ≤ p ∧ t ≤ n ∧ Hid (offC n each k = t) ∧ Hid (LensOk n each ps k) ∧ Hid (RC wr g h cap size (rowK n each ps (newC n) k)) ∧ Hid (Turn w4 wr (· = h))) (fun _ s10 _ => p - (intOf s10).toNat)
  case atStart => exact ⟨0, 0, rfl, rfl, by omega, by omega, Lib.hid (by unfold offC; rw [Nat.zero_mul, Nat.zero_min]), Lib.hid (fun j hj => by omega), Lib.hid (by rw [HRZ.out]; exact HC4.out), Lib.hid (Turn.refl _ _)⟩
  case round =>
    obtain ⟨k, t, rfl, rfl, hk, htn, HT, HLK, HR, HW⟩ := hrel
    by_cases hkp : k < p
    case neg =>
      have hq : decide (k < p) = false := decide_eq_false hkp
      obtain rfl : k = p := by omega
      have hR := HR.out
      rw [HRE.out] at hR
      have hMl : (cntsB n ps.flatten).length = n := by rw [← HRE.out]; exact HRL.out _ (Nat.le_refl _) HLK.out
      have hld := HTWO.out HLK.out
      obtain ⟨M, hM⟩ : ∃ M, cntsB n ps.flatten = M := ⟨_, rfl⟩
      rw [hM] at hR hMl hld
      have HLD := Lib.hid hld
      have HRM := Lib.hid hR
      have c2 : wr.cell? ⟨g, 2, none⟩ = some (.slice (some ⟨h, 0, none⟩) n cap) := by rw [cell_of_row _ _ _ _ _ _ hR.box, ← hMl]; rfl
      have m0 := (hR.row 0 (by omega)).1
      have m1 := (hR.row 1 (by omega)).1
      have hG := HFIN.out wr HW.out
      have HG := Lib.hid hG
      obtain ⟨x0, hx0⟩ : ∃ x, M.getD 0 0 = x := ⟨_, rfl⟩
      obtain ⟨x1, hx1⟩ : ∃ x, M.getD 1 0 = x := ⟨_, rfl⟩
      rw [hx0] at m0 HLD
      rw [hx1] at m1 HLD
      have hcc := hR.le
      rw [hMl] at hcc
      clear hM hMl hR hld hx0 hx1 hG HR
      by_cases h0 : x0 = 1
      · have k2 : (x0 != 1) = false := by rw [h0]; rfl
        by_cases h1 : x1 = 1
        · have k3 : (x1 != 1) = false := by rw [h1]; rfl
          have hl : loadC size n ps = (M, 0) := by rw [HLD.out, if_neg (by rintro (e | e); exact e h0; exact e h1)]
          have HF : Hid (RLoadX w size n ps (.returned (.tuple #[.pointer (some ⟨g, 0, none⟩), .int .i64 0])) wr) := Lib.hid ⟨HG.out, .inr ⟨n, rfl, HOK.out, .inr ⟨by rw [hl], g, h, cap, rfl, by rw [hl]; exact HRM.out, Nat.le_trans HG0.out.size HL2.out.1, Nat.le_trans HG0.out.size HL2.out.2, HCM.out⟩⟩⟩
          clear h0 h1 hl
          go_wp2
          go_ret2
          exact HF.out
        · have k3 : (x1 != 1) = true := bne_iff_ne.2 h1
          have hl : loadC size n ps = ([], 4) := by rw [HLD.out, if_pos (.inr h1)]
          have HF : Hid (RLoadX w size n ps (.returned (.tuple #[.pointer none, .int .i64 4])) wr) := Lib.hid ⟨HG.out, .inr ⟨n, rfl, HOK.out, .inl ⟨by rw [hl], rfl⟩⟩⟩
          clear h0 h1 hl
          go_wp2
          go_ret2
          exact HF.out
      · have k2 : (x0 != 1) = true := bne_iff_ne.2 h0
        have hl : loadC size n ps = ([], 4) := by rw [HLD.out, if_pos (.inl h0)]
        have HF : Hid (RLoadX w size n ps (.returned (.tuple #[.pointer none, .int .i64 4])) wr) := Lib.hid ⟨HG.out, .inr ⟨n, rfl, HOK.out, .inl ⟨by rw [hl], rfl⟩⟩⟩
        clear h0 hl
        go_wp2
        go_ret2
        exact HF.out
    have hq : decide (k < p) = true := decide_eq_true hkp
    have hkn : k * each < n := (HLTN.out k).1 hkp
    have hto : t = k * each := by rw [← HT.out]; exact HOA.out k hkn
    have q1 := HW.out.cell (seg_cell HS4.out k hkp) HBH.out.2
    have q2 := HW.out.cell (seg_at HQ4.out k hkp) HBH.out.1
    have hmem : ps.getD k [] ∈ ps := by
      rw [List.getD_eq_getElem?_getD, List.getElem?_eq_getElem (by rw [HEQ.out]; exact hkp)]
      exact List.getElem_mem _
    have hbk := HBQ.out _ hmem
    have hql2 := HWL.out.2 k hkp
    have hpl : pieceL n each k ≤ each ∧ k * each + pieceL n each k ≤ n ∧ 1 ≤ pieceL n each k := by unfold pieceL; omega
    have HRSk := Lib.hid (fun hl => HRS.out k hkp hl)
    have HOSk := Lib.hid (HOS.out k hkn)
    rw [HT.out] at HOSk
    have HLK2 := Lib.hid (fun (hL : (ps.getD k []).length = 2 * pieceL n each k) => (fun j hj => by
      by_cases e : j = k
      · rw [e]; exact hL
      · exact HLK.out j (by omega) : LensOk n each ps (k + 1)))
    have HLB : Hid ((ps.getD k []).length ≠ 2 * pieceL n each k → (loadC size n ps).2 = 4) := Lib.hid (fun hL => by rw [HBAD.out (fun q => hL (q k hkp))])
    have HRLk := Lib.hid (HRL.out k (by omega) HLK.out)
    have hzA : (strOfNums (ps.getD k [])).size = (ps.getD k []).length := strOfNums_size _
    have hzC : (strOfNums (Q.getD k [])).size = 2 * pieceL n each k := by rw [strOfNums_size]; exact hql2
    obtain ⟨A, hA⟩ : ∃ A, ps.getD k [] = A := ⟨_, rfl⟩
    rw [hA] at q1 hbk HLK2 HLB hzA HRSk
    obtain ⟨la, hla⟩ : ∃ l, A.length = l := ⟨_, rfl⟩
    rw [hla] at hzA HLK2 HLB
    have HLA := Lib.hid hla
    obtain ⟨q, hqq⟩ : ∃ q, pieceL n each k = q := ⟨_, rfl⟩
    rw [hqq] at hzC hpl HRSk HOSk HLK2 HLB
    obtain ⟨q2', hq2⟩ : ∃ x, 2 * q = x := ⟨_, rfl⟩
    rw [hq2] at hzC HLK2 HLB
    have HQ2 := Lib.hid hq2
    have hlab : la ≤ 140737488355328 := by rw [← hla]; exact hbk.2
    have HIX := Lib.hid (fun y (hy : y < la) W => idx_any A hbk.1 y (by rw [hla]; exact hy) W)
    have HBY : Hid (∀ y, 0 ≤ A.getD y 0 ∧ A.getD y 0 < 256) := Lib.hid (fun y => by
      rw [List.getD_eq_getElem?_getD]
      by_cases hy : y < A.length
      · rw [List.getElem?_eq_getElem hy]; exact hbk.1 _ (List.getElem_mem hy)
      · rw [List.getElem?_eq_none (by omega)]; decide)
    obtain ⟨SA, hSA⟩ : ∃ S, strOfNums A = S := ⟨_, rfl⟩
    rw [hSA] at q1 hzA HIX
    obtain ⟨SC, hSC⟩ : ∃ S, strOfNums (Q.getD k []) = S := ⟨_, rfl⟩
    rw [hSC] at q2 hzC
    have HQ1 := Lib.hid (HS4.out)
    have HCA : Hid (∀ W, Turn w4 W (· = h) → W.cell? ⟨ag, ao + k, none⟩ = some (.string SA)) := Lib.hid (fun W t2 => by
      have := t2.cell (seg_cell HS4.out k hkp) HBH.out.2
      rw [hA, hSA] at this
      exact this)
    clear hA hla hqq hq2 hSA hSC hmem hbk hql2 hkn
    by_cases hL : la = q2'
    case neg =>
      have k2 : ((la : Int) != (q2' : Int)) = true := bne_iff_ne.2 (by omega)
      have HLB2 := Lib.hid (HLB.out hL)
      clear hL HLB HLK2 HRSk hto
      go_wp2
      go_quiet (fail)
      have HF : Hid (RLoadX w size n ps (.returned (.tuple #[.pointer none, .int .i64 4])) (wr.drewN nq)) := Lib.hid ⟨HFIN.out _ (HW.out.trans (Turn.drewN wr nq (· = h)) (fun _ _ e => e)), .inr ⟨n, rfl, HOK.out, .inl ⟨HLB2.out, rfl⟩⟩⟩
      go_wp2
      go_ret2
      exact HF.out
    subst hL
    have k2 : ((la : Int) != (la : Int)) = false := by simp
    have HLK3 := Lib.hid (HLK2.out rfl)
    have HRS3 := Lib.hid (HRSk.out HLK3.out)
    have HLL : Hid (A.length = 2 * q) := Lib.hid (by rw [HLA.out, HQ2.out])
    clear HLB HLK2 HRSk
    go_wp2
    go_quiet (fail)
    have HW5 := Lib.hid (HW.out.trans (Turn.drewN wr nq (· = h)) (fun _ _ e => e))
    have HR5 := Lib.hid (HR.out.turn (Turn.drewN wr nq nowhere) id id)
    obtain ⟨w5, hw5⟩ : ∃ v, wr.drewN nq = v := ⟨_, rfl⟩
    rw [hw5] at HW5 HR5 ⊢
    clear hw5 q1 q2 HW HR
    have HSP := Lib.hid (fun j (hj : j < q) => (by
      have h1 := cnts_take j A (by have := HLL.out; omega)
      have h2 := spl_snoc (rowK n each ps (newC n) k) (k * each) (cntsB j A) (ofB ((A.drop (2 * j)).take 2)) (by rw [h1, HRLk.out]; omega)
      rw [h1, ← cnts_snoc j A (by have := HLL.out; omega), of_two A j (by have := HLL.out; omega)] at h2
      exact h2 : (spl (rowK n each ps (newC n) k) (k * each) (cntsB j A)).set (k * each + j) (A.getD (2 * j) 0 + 256 * A.getD (2 * j + 1) 0) = spl (rowK n each ps (newC n) k) (k * each) (cntsB (j + 1) A)))
    have HSL := Lib.hid (fun j (hj : j ≤ q) => (by
      rw [spl_len _ _ _ (by rw [cnts_take j A (by have := HLL.out; omega), HRLk.out]; omega)]; exact HRLk.out : (spl (rowK n each ps (newC n) k) (k * each) (cntsB j A)).length = n))
    have HR50 : Hid (RC w5 g h cap size (spl (rowK n each ps (newC n) k) (k * each) (cntsB 0 A))) := Lib.hid (by rw [cntsB, spl_nil]; exact HR5.out)
    rw [← hto] at HSP HSL HR50 HRS3 hpl
    obtain ⟨RK, hRK⟩ : ∃ R, rowK n each ps (newC n) k = R := ⟨_, rfl⟩
    rw [hRK] at HSP HSL HR50 HRS3
    clear HR5 hRK hto HRLk
    go_wp2
    go_loopw [9, 11] (fun s9 s11 w6 => ∃ (j u y : Nat), s11 = .int .i64 (y : Int) ∧ s9 = .int .i64 (u : Int) ∧ y ≤ la ∧ u ≤ n ∧ Hid (2 * j = y) ∧ Hid (t + j = u) ∧ Hid (RC w6 g h cap size (spl RK t (cntsB j A))) ∧ Hid (Turn w4 w6 (· = h))) (fun _ s11 _ => la - (intOf s11).toNat)
    case atStart => exact ⟨0, t, 0, rfl, rfl, by omega, by omega, Lib.hid rfl, Lib.hid rfl, HR50, HW5⟩
    case round =>
      clear HR50 HW5
      obtain ⟨j, u, y, rfl, rfl, hy, hu, HJY, HJU, HR, HW⟩ := hrel
      have q1 := HCA.out wr HW.out
      by_cases hyl : y < la
      · have hq8 : decide (y < la) = true := decide_eq_true hyl
        have hjq : j < q := by have := HJY.out; have := HQ2.out; omega
        have hy1 : y + 1 < la := by have := HJY.out; have := HQ2.out; omega
        have hun : u < n := by have := HJU.out; omega
        have i1 := HIX.out y hyl
        have i2 := HIX.out (y + 1) hy1
        have hb1 := HBY.out y
        have hb2 := HBY.out (y + 1)
        have hsl := HSL.out j (by omega)
        have c2 : wr.cell? ⟨g, 2, none⟩ = some (.slice (some ⟨h, 0, none⟩) n cap) := by rw [cell_of_row _ _ _ _ _ _ HR.out.box, ← hsl]; rfl
        obtain ⟨hcell, hfr⟩ := HR.out.row u (by rw [hsl]; exact hun)
        have hsp := HSP.out j hjq
        rw [HJY.out, HJU.out] at hsp
        have HS6 := Lib.hid (HR.out.set u (A.getD y 0 + 256 * A.getD (y + 1) 0) (by rw [hsl]; exact hun))
        rw [hsp] at HS6
        obtain ⟨z1, hz1⟩ : ∃ z, A.getD y 0 = z := ⟨_, rfl⟩
        obtain ⟨z2, hz2⟩ : ∃ z, A.getD (y + 1) 0 = z := ⟨_, rfl⟩
        rw [hz1] at i1 hb1 HS6
        rw [hz2] at i2 hb2 HS6
        obtain ⟨y1, hy1e⟩ : ∃ x, y + 1 = x := ⟨_, rfl⟩
        have e1 : (y : Int) + 1 = (y1 : Int) := by omega
        rw [hy1e] at i2
        have e2 : IntKind.i64.wrap (y1 : Int) = (y1 : Int) := IntWalk.i64_in _ (by omega)
        have e3 : IntKind.i64.wrap z1 = z1 := IntWalk.i64_in _ (by omega)
        have e4 : IntKind.i64.wrap z2 = z2 := IntWalk.i64_in _ (by omega)
        have e5 : IntKind.i64.wrap (256 * z2) = 256 * z2 := IntWalk.i64_in _ (by omega)
        have e6 : IntKind.i64.wrap (z1 + 256 * z2) = z1 + 256 * z2 := IntWalk.i64_in _ (by omega)
        obtain ⟨xo, hxo⟩ : ∃ x, (spl RK t (cntsB j A)).getD u 0 = x := ⟨_, rfl⟩
        rw [hxo] at hcell
        clear hz1 hz2 hb1 hb2 hsl hsp hxo HR hy1e hy1
        go_wp2
        go_region
        have HR7 : Hid (RC ((wr.setCell ⟨h, u, none⟩ (.int .i64 (z1 + 256 * z2))).drew) g h cap size (spl RK t (cntsB (j + 1) A))) := Lib.hid (HS6.out.1.turn (Turn.drew _ nowhere) id id)
        have HW7 : Hid (Turn w4 ((wr.setCell ⟨h, u, none⟩ (.int .i64 (z1 + 256 * z2))).drew) (· = h)) := Lib.hid ((HW.out.trans HS6.out.2 (fun _ _ e => e)).trans (Turn.drew _ (· = h)) (fun _ _ e => e))
        obtain ⟨w7, hw7⟩ : ∃ v, (wr.setCell ⟨h, u, none⟩ (.int .i64 (z1 + 256 * z2))).drew = v := ⟨_, rfl⟩
        rw [hw7] at HR7 HW7 ⊢
        have HJ1 : Hid (2 * (j + 1) = y + 2) := Lib.hid (by have := HJY.out; omega)
        have HJ2 : Hid (t + (j + 1) = u + 1) := Lib.hid (by have := HJU.out; omega)
        have hy2 : y + 2 ≤ la := by have := HJY.out; have := HQ2.out; omega
        clear hw7 HS6 HW q1 i1 i2 c2 hcell hfr e1 e2 e3 e4 e5 e6
        go_wp2
        go_roundw
        case rel => exact ⟨j + 1, u + 1, y + 2, by go_num, by go_num, hy2, by omega, HJ1, HJ2, HR7, HW7⟩
        case measure => simp [intOf]; omega
      · have hq8 : decide (y < la) = false := decide_eq_false hyl
        obtain rfl : y = la := by omega
        obtain rfl : j = q := by have := HJY.out; have := HQ2.out; omega
        have hlk2 : LensOk n each ps (k + 1) := HLK3.out
        have HR8 : Hid (RC wr g h cap size (rowK n each ps (newC n) (k + 1))) := Lib.hid (by rw [← HRS3.out]; exact HR.out)
        have HT2 : Hid (offC n each (k + 1) = u) := Lib.hid (by rw [HOSk.out]; exact HJU.out)
        clear HR
        go_wp2
        go_roundw
        case rel => exact ⟨k + 1, u, by go_num, rfl, by omega, hu, HT2, HLK3, HR8, HW⟩
        case measure => simp [intOf]; omega
end Go.Proofs.Ytkinmcnmdfpjbaa.Cn
