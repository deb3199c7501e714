/-
  The shortest of some encodings: cmp.Compare, slices.MinFunc, shortest.
-/
import Derived.Test.YteolpjlpjjjchaaInEnc
namespace Go.Proofs.Yteolpjlpjjjchaa.In
open Go.RowKit Go.Joins
open Is (IsI)

def cmpI (x y : Int) : Int := if x < y then -1 else if y < x then 1 else 0
theorem nan_any (x : Int) (w : World) : Calls Try.prog 60 #[.int .i64 x] w fun e w' => e = .returned (.bool false) ∧ w = w' := by
  go_enter Try.func60, Try.ntmps60
  go_wp2
  go_ret
  exact ⟨rfl, rfl⟩
set_option maxHeartbeats 400000 in
theorem cmp_any (x y : Int) (w : World) : Calls Try.prog 43 #[.int .i64 x, .int .i64 y] w fun e w' => e = .returned (.int .i64 (cmpI x y)) ∧ w = w' := by
  by_cases h1 : x < y
  · go_enter Try.func43, Try.ntmps43
    go_wp2_with (go_at_call 60; refine (nan_any _ _).mono ?_; rintro e w' ⟨rfl, rfl⟩)
    go_ret
    exact ⟨Bs.ret_int (by unfold cmpI; rw [if_pos h1]), rfl⟩
  · by_cases h2 : y < x
    · go_enter Try.func43, Try.ntmps43
      go_wp2_with (go_at_call 60; refine (nan_any _ _).mono ?_; rintro e w' ⟨rfl, rfl⟩)
      go_ret
      exact ⟨Bs.ret_int (by unfold cmpI; rw [if_neg (by omega), if_pos h2]), rfl⟩
    · go_enter Try.func43, Try.ntmps43
      go_wp2_with (go_at_call 60; refine (nan_any _ _).mono ?_; rintro e w' ⟨rfl, rfl⟩)
      go_ret
      exact ⟨Bs.ret_int (by unfold cmpI; rw [if_neg (by omega), if_neg (by omega)]), rfl⟩

set_option maxHeartbeats 400000 in
theorem less_any (a0 a1 : Option Addr) (n0 c0 n1 c1 : Nat) (w : World) : Calls Try.prog 42 #[.slice a0 n0 c0, .slice a1 n1 c1] w fun e w' => e = .returned (.int .i64 (cmpI n0 n1)) ∧ w = w' := by
  have H := Lib.hid (cmp_any (n0 : Int) (n1 : Int) w)
  generalize cmpI (n0 : Int) (n1 : Int) = r at H ⊢
  go_enter Try.func42, Try.ntmps42
  go_wp2_with (go_at_call 43; refine H.out.mono ?_; rintro e w' ⟨rfl, rfl⟩)
  go_ret
  exact ⟨rfl, rfl⟩

/-- bytes in memory -/
structure Piece where
  a : Option Addr
  m : Nat
  k : Nat
  B : List Int
def Piece.val (p : Piece) : Value := .slice p.a p.m p.k
def Piece.ok (w : World) (p : Piece) : Prop := p.m = p.B.length ∧ Bs.Seg w p.a p.m p.k p.B
def stepP (p q : Piece) : Piece := if q.m < p.m then q else p
def minP (p : Piece) (t : List Piece) (k : Nat) : Piece := (t.take k).foldl stepP p
theorem minP_succ (p : Piece) (t : List Piece) (k : Nat) (q : Piece) (h : t[k]? = some q) : minP p t (k + 1) = stepP (minP p t k) q := by
  unfold minP
  rw [List.take_add_one, h, Option.toList_some, List.foldl_append]; rfl
def stepB (p q : List Int) : List Int := if q.length < p.length then q else p
def bestOf : List (List Int) → List Int
  | [] => []
  | p :: t => t.foldl stepB p
theorem min_best (w : World) : ∀ (t : List Piece) (p : Piece), p.ok w → (∀ q ∈ t, q.ok w) → (t.foldl stepP p).ok w ∧ (t.foldl stepP p).B = (t.map Piece.B).foldl stepB p.B := by
  intro t
  induction t with
  | nil => intro p h _; exact ⟨h, rfl⟩
  | cons q t ih =>
    intro p h hq
    have h1 := hq q (by simp)
    rw [List.foldl_cons, List.map_cons, List.foldl_cons]
    have e : (stepP p q).B = stepB p.B q.B := by
      unfold stepP stepB
      rw [← h.1, ← h1.1]
      split <;> rfl
    have hs : (stepP p q).ok w := by unfold stepP; split <;> assumption
    have := ih (stepP p q) hs (fun r hr => hq r (by simp [hr]))
    rw [e] at this
    exact this
theorem best_three (l : List Int) : bestOf [encB 1 l, encB 2 l, encB 3 l] = bestB l := by
  simp only [bestOf, stepB, bestB, List.foldl_cons, List.foldl_nil]
theorem best_one (B : List Int) : bestOf [B] = B := rfl

set_option maxRecDepth 100000 in
set_option maxHeartbeats 2000000 in
theorem minFunc_any (g D c : Nat) (p : Piece) (t : List Piece) (w : World) (hD : D = t.length + 1) (hDc : D ≤ c) (hc : c ≤ 9223372036854775807) (hcell : ∀ j q, (p :: t)[j]? = some q → w.cell? ⟨g, j, none⟩ = some q.val) :
    Calls Try.prog 41 #[.slice (some ⟨g, 0, none⟩) D c, .func (.func 42) #[] #[]] w fun e w' => e = .returned (t.foldl stepP p).val ∧ w = w' := by
  have c0 := hcell 0 p rfl
  have HC := Lib.hid hcell
  have HD := Lib.hid hD
  have hD1 : 1 ≤ D := by omega
  have HF : Hid (minP p t (D - 1) = t.foldl stepP p) := Lib.hid (by unfold minP; rw [List.take_of_length_le (by omega)])
  obtain ⟨pa, pm, pk, pB⟩ := p
  simp only [Piece.val] at c0
  clear hcell hD
  go_enter Try.func41, Try.ntmps41
  go_wp2
  go_loop [5, 6] (fun sm si => ∃ (k : Nat) (q : Piece), k + 1 ≤ D ∧ si = .int .i64 (((k + 1 : Nat)) : Int) ∧ sm = .slice q.a q.m q.k ∧ Hid (q = minP ⟨pa, pm, pk, pB⟩ t k)) (fun _ si => D - (intOf si).toNat)
  case atStart => exact ⟨0, ⟨pa, pm, pk, pB⟩, hD1, rfl, rfl, Lib.hid rfl⟩
  case round =>
    obtain ⟨k, ⟨qa, qm, qk, qB⟩, hk, rfl, rfl, HQ⟩ := hrel
    obtain ⟨j, hj⟩ : ∃ j, j = k + 1 := ⟨_, rfl⟩
    rw [← hj] at hk ⊢
    by_cases hlt : j < D
    · obtain ⟨r, hr⟩ : ∃ r, t[k]? = some r := ⟨_, List.getElem?_eq_getElem (by have := HD.out; omega)⟩
      have g1 := HC.out j r (by rw [hj]; exact hr)
      have HS := Lib.hid (minP_succ ⟨pa, pm, pk, pB⟩ t k r hr)
      obtain ⟨ra, rm, rk, rB⟩ := r
      simp only [Piece.val] at g1
      have HL := Lib.hid (less_any ra qa rm rk qm qk w)
      by_cases hlr : rm < qm
      · have hcm : cmpI (rm : Int) (qm : Int) = -1 := by unfold cmpI; rw [if_pos (by omega)]
        rw [hcm] at HL
        have HE : Hid ((⟨ra, rm, rk, rB⟩ : Piece) = minP ⟨pa, pm, pk, pB⟩ t (k + 1)) := Lib.hid (by rw [HS.out, ← HQ.out]; unfold stepP; rw [if_pos hlr])
        have HJ := Lib.hid hj
        clear hcm hr hj
        dsimp only
        go_wp2_with fail
        refine HL.out.mono ?_
        rintro e w' ⟨rfl, rfl⟩
        go_wp2
        go_round
        case rel => exact ⟨k + 1, ⟨ra, rm, rk, rB⟩, by have := HJ.out; omega, by have := HJ.out; subst this; go_num, rfl, HE⟩
        case measure => simp [intOf]; omega
      · have hge : 0 ≤ cmpI (rm : Int) (qm : Int) := by unfold cmpI; rw [if_neg (by omega)]; split <;> decide
        generalize cmpI (rm : Int) (qm : Int) = z at HL hge
        have HE : Hid ((⟨qa, qm, qk, qB⟩ : Piece) = minP ⟨pa, pm, pk, pB⟩ t (k + 1)) := Lib.hid (by rw [HS.out, ← HQ.out]; unfold stepP; rw [if_neg hlr])
        have HJ := Lib.hid hj
        clear hr hj
        dsimp only
        go_wp2_with fail
        refine HL.out.mono ?_
        rintro e w' ⟨rfl, rfl⟩
        go_wp2
        go_round
        case rel => exact ⟨k + 1, ⟨qa, qm, qk, qB⟩, by have := HJ.out; omega, by have := HJ.out; subst this; go_num, rfl, HE⟩
        case measure => simp [intOf]; omega
    · obtain rfl : j = D := by omega
      have HR : Hid (Value.slice qa qm qk = (t.foldl stepP ⟨pa, pm, pk, pB⟩).val) := Lib.hid (by
        rw [← HF.out, show j - 1 = k from by omega, ← HQ.out]; rfl)
      clear hj
      go_wp2
      go_ret
      exact ⟨by rw [HR.out]; rfl, rfl⟩

theorem info_sb : (Try.prog.info? 23).map (fun i => (i.zero, i.size, i.bytes)) = some (some (.slice none 0 0), 1, 24) := by kernel_rfl
def roomS (S : Nat) : Array Value := madeCells (Value.slice none 0 0).cells S
theorem roomS_size (S : Nat) : (roomS S).size = S := size_madeCells _ _
theorem make_roomS (S : Nat) (hS : S ≤ 1000000) (W : World) : (Instr.makeSlice 35 (.int .i64 0) (.int .i64 (S : Int))).run Try.prog W = .ok (.slice (some ⟨W.heap.size, 0, none⟩) 0 S) (W.alloc (.cells (roomS S) 23)) := by
  obtain ⟨i0, hi, hz0, hz1, hz2⟩ := info_parts info_sb
  have h := run_make (P := Try.prog) W 35 23 i0 (.slice none 0 0) Try.underlying35 hi hz0 .i64 .i64 0 (S : Int) (by omega) (by omega) (by rw [hz2]; omega) (by omega)
  rw [hz1, Int.toNat_natCast, Nat.mul_one] at h
  exact h

/-- A result of bytes and an error. -/
def PartE (w : World) (E : Int) (B : List Int) (e : Ending) (w' : World) : Prop :=
  ∃ a m k, e = .returned (.tuple #[.slice a m k, .int .i64 E]) ∧ m = B.length ∧ Bs.Seg w' a m k B ∧ Below w.heap.size w w'

theorem Piece.kept {w w' : World} {p : Piece} {row : Option Nat} (h : p.ok w) (hg : w.grownBy w' row) (hne : ∀ ad, p.a = some ad → row ≠ some ad.block) : p.ok w' := ⟨h.1, h.2.kept hg hne⟩

set_option maxRecDepth 100000 in
set_option maxHeartbeats 2000000 in
theorem shortest_any (ks : List Nat) (K kg : Nat) (a : Option Addr) (n c : Nat) (l : List Int) (w : World) (hs : Is.Seg w a n c l) (hI : IsI l) (hn : n ≤ 4096) (hK : ks.length = K) (K1 : 1 ≤ K) (K3 : K ≤ 3) (hks : ∀ k ∈ ks, 1 ≤ k ∧ k ≤ 3)
    (hkc : ∀ (j k : Nat), ks[j]? = some k → w.cell? ⟨kg, j, none⟩ = some (.int .i64 (k : Int))) :
    Calls Try.prog 24 #[.slice a n c, .slice (some ⟨kg, 0, none⟩) K K] w (PartE w 0 (bestOf (ks.map fun k => encB k l))) := by
  obtain ⟨i0, hi, hz0, hz1, hz2⟩ := info_parts info_sb
  have HSeg := Lib.hid (fun W hb => iseg_below (w' := W) (B := w.heap.size) hs hb rfl)
  have HI := Lib.hid hI
  have HK := Lib.hid hK
  have HKs := Lib.hid hks
  have HKc := Lib.hid hkc
  have hmk := make_roomS K (by omega)
  have h0 := World.ownsRow_made (base := w.heap.size) (e := 23) (size := 1) w (roomS K) K (Nat.le_refl _) (by unfold maxLen; omega) (by rw [roomS_size, Nat.mul_one])
  have HO := Lib.hid h0
  have HG : Hid (Below w.heap.size w (w.alloc (.cells (roomS K) 23))) := Lib.hid ((Below.refl _ w).alloc (Nat.le_refl _) _)
  clear h0 hs hI hK hks hkc
  go_enter Try.func24, Try.ntmps24
  go_wp2
  go_loopw [6, 17] (fun so si wr => ∃ (k : Nat) (ps : List Piece), k ≤ K ∧ si = .int .i64 k ∧ so = .slice (some ⟨w.heap.size, 0, none⟩) k K ∧ Hid (wr.ownsRow w.heap.size 23 1 (.slice (some ⟨w.heap.size, 0, none⟩) k K) k (ps.map Piece.val)) ∧
      Hid (∀ p ∈ ps, p.ok wr ∧ ∀ ad, p.a = some ad → w.heap.size ≠ ad.block) ∧ Hid (ps.map Piece.B = (ks.take k).map fun k => encB k l) ∧ Hid (Below w.heap.size w wr) ∧ Hid (w.heap.size < wr.heap.size))
    (fun _ si _ => K - (intOf si).toNat)
  case atStart => exact ⟨0, [], Nat.zero_le _, rfl, rfl, HO, Lib.hid (fun p hp => by cases hp), Lib.hid rfl, HG, Lib.hid (by simp)⟩
  case round =>
    obtain ⟨k, ps, hk, rfl, rfl, HO, HP, HE, HB, HL⟩ := hrel
    by_cases hlt : k < K
    · obtain ⟨j, hj⟩ : ∃ j, ks[k]? = some j := ⟨_, List.getElem?_eq_getElem (by have := HK.out; omega)⟩
      have hcw := HKc.out k j hj
      have g1 : wr.cell? ⟨kg, k, none⟩ = some (.int .i64 (j : Int)) := (HB.out.cell (p := ⟨kg, k, none⟩) (World.block_lt_of_cell? w _ hcw)).trans hcw
      obtain ⟨j1, j3⟩ := HKs.out j (List.mem_of_getElem? hj)
      have HEnc := Lib.hid (encode_any j a n c l wr (HSeg.out wr HB.out) HI.out (by omega) j1 j3)
      have HT : Hid ((ks.take (k + 1)).map (fun k => encB k l) = (ks.take k).map (fun k => encB k l) ++ [encB j l]) := Lib.hid (by rw [List.take_add_one, hj]; simp)
      clear hcw hj
      go_wp2_with fail
      refine HEnc.out.mono ?_
      rintro e w1 ⟨a1, m1, k1, rfl, hm1, hs1, hb1, hne1⟩
      have hsz1 := hb1.size
      have HO1 : Hid ((w1.alloc (.cells #[.slice a1 m1 k1] 23)).ownsRow w.heap.size 23 1 (.slice (some ⟨w.heap.size, 0, none⟩) k K) k (ps.map Piece.val)) := Lib.hid ((own_grown HO.out (Bs.grown_of hb1)).alloc _)
      have HB1 : Hid (Below w.heap.size w (w1.alloc (.cells #[.slice a1 m1 k1] 23))) := Lib.hid ((HB.out.trans (below_mono hb1 HB.out.size)).alloc (by have := HB.out.size; omega) _)
      have hps : ∀ p ∈ ps ++ [(⟨a1, m1, k1, encB j l⟩ : Piece)], p.ok (w1.alloc (.cells #[.slice a1 m1 k1] 23)) ∧ ∀ ad, p.a = some ad → w.heap.size ≠ ad.block := by
        intro p hp
        rcases List.mem_append.1 hp with hp | hp
        · obtain ⟨h1, h2⟩ := HP.out p hp
          exact ⟨Piece.kept (Piece.kept h1 (Bs.grown_of hb1) (fun _ _ e => by cases e)) (World.grownBy_alloc w1 _ none) (fun _ _ e => by cases e), h2⟩
        · simp only [List.mem_singleton] at hp
          subst hp
          refine ⟨⟨hm1, hs1.kept (World.grownBy_alloc w1 _ none) (fun _ _ e => by cases e)⟩, fun ad e => ?_⟩
          have := hne1 ad e
          have := HL.out
          omega
      have HPs := Lib.hid hps
      have HL1 : Hid (w.heap.size < (w1.alloc (.cells #[.slice a1 m1 k1] 23)).heap.size) := Lib.hid (by have := HL.out; simp; omega)
      clear hb1 hne1 hm1 hs1 hps hsz1
      dsimp only
      go_wp2_with (at_builtin; refine wpList_append_fits _ rfl (.tmp 21) (.tmp 25) 35 rfl w.heap.size 23 i0 1 Try.underlying35 hi hz1 w.heap.size k K _ rfl HO1.out ⟨w1.heap.size, 0, none⟩ 1 1 [.slice a1 m1 k1] rfl rfl (by intro t u ht; match t, ht with | 0, ht => simp at ht; subst ht; exact Pk.cell_new w1 _ _) (by intro u hu; simp at hu; subst hu; rfl) (by omega) ?_; intro w2 hown2 hgrow2)
      go_roundw
      case rel =>
        refine ⟨k + 1, ps ++ [⟨a1, m1, k1, encB j l⟩], by omega, by go_num, rfl, Lib.hid ?_, Lib.hid ?_, Lib.hid ?_, Lib.hid (HB1.out.grown hgrow2 (Nat.le_of_lt HL1.out) (fun j e => by cases e; exact Nat.le_refl _)), Lib.hid (Nat.lt_of_lt_of_le HL1.out hgrow2.size)⟩
        · rw [List.map_append]; exact hown2
        · intro p hp
          obtain ⟨h1, h2⟩ := HPs.out p hp
          exact ⟨Piece.kept h1 hgrow2 (fun ad e e2 => h2 ad e (Option.some.inj e2)), h2⟩
        · rw [List.map_append, HE.out, HT.out]; rfl
      case measure => simp [intOf]; omega
    · obtain rfl : k = K := by omega
      have hle : (ps.map Piece.val).length = k * 1 := HO.out.1
      rw [List.length_map, Nat.mul_one] at hle
      obtain ⟨p, t, rfl⟩ : ∃ p t, ps = p :: t := by
        cases ps with
        | nil => simp at hle; omega
        | cons p t => exact ⟨p, t, rfl⟩
      have HM := Lib.hid (minFunc_any w.heap.size k k p t wr (by simpa using hle.symm) (Nat.le_refl _) (by omega) (fun j q hq => by
        have := HO.out.cells (g := w.heap.size) rfl j q.val (by rw [List.getElem?_map, hq]; rfl)
        rwa [Addr.add_lit, Nat.zero_add] at this))
      have hmb := min_best wr t p (HP.out p (by simp)).1 (fun q hq => (HP.out q (by simp [hq])).1)
      have hbest : bestOf (ks.map fun k => encB k l) = (t.foldl stepP p).B := by
        have h1 := HE.out
        rw [List.take_of_length_le (Nat.le_of_eq HK.out)] at h1
        rw [← h1, hmb.2]; rfl
      obtain ⟨⟨qa, qm, qk, qB⟩, hq⟩ : ∃ q, t.foldl stepP p = q := ⟨_, rfl⟩
      rw [hq] at hbest hmb HM
      have HF : Hid (PartE w 0 (bestOf (ks.map fun k => encB k l)) (.returned (.tuple #[.slice qa qm qk, .int .i64 0])) wr) := Lib.hid (by
        rw [hbest]
        exact ⟨qa, qm, qk, rfl, hmb.1.1, hmb.1.2, HB.out⟩)
      clear hbest hmb hq hle
      simp only [Piece.val] at HM
      go_wp2_with fail
      refine HM.out.mono ?_
      rintro e w' ⟨rfl, rfl⟩
      go_wp2
      go_ret2
      exact HF.out
end Go.Proofs.Yteolpjlpjjjchaa.In
