/-
  ZoneJoin: the zone of two columns together is the Join, either way, and in whatever brackets.
-/
import Derived.Test.YtpincfofnlfjiaaZnLives
import Derived.Test.YtpincfofnlfjiaaZnGrow
namespace Go.Proofs.Ytpincfofnlfjiaa.Zn
open Go.RowKit Bs Dv

theorem small_join {a b : Zon} (ha : 0 ≤ a.cnt ∧ a.cnt ≤ 300 ∧ 0 ≤ a.nul ∧ a.nul ≤ 300) (hb : 0 ≤ b.cnt ∧ b.cnt ≤ 300 ∧ 0 ≤ b.nul ∧ b.nul ≤ 300) : Small (joinZ a b) := by
  unfold Small
  rw [join_cnt, join_nul]
  omega
theorem tiny_of (l : List Cel) (h : l.length ≤ 60) : 0 ≤ (ofZ l).cnt ∧ (ofZ l).cnt ≤ 300 ∧ 0 ≤ (ofZ l).nul ∧ (ofZ l).nul ≤ 300 := by
  have g := good_of l
  have c := of_cnt l
  have h1 := g.nul
  have h2 := g.le
  omega
set_option maxRecDepth 100000 in
set_option maxHeartbeats 8000000 in
theorem join_law (a0 : Option Addr) (n0 k0 : Nat) (l0 : List Cel) (a1 : Option Addr) (n1 k1 : Nat) (l1 : List Cel) (a2 : Option Addr) (n2 k2 : Nat) (l2 : List Cel) (w : World) (hs0 : CSeg w a0 n0 k0 l0) (ho0 : StrsOk l0) (hs1 : CSeg w a1 n1 k1 l1) (ho1 : StrsOk l1) (hs2 : CSeg w a2 n2 k2 l2) (ho2 : StrsOk l2) :
    Calls Try.prog 6 #[.slice a0 n0 k0, .slice a1 n1 k1, .slice a2 n2 k2] w fun e w' => e = .returned (.bool true) ∧ Below w.heap.size w w' := by
  have HL0 := Lib.hid hs0.len
  have HL1 := Lib.hid hs1.len
  have HL2 := Lib.hid hs2.len
  have S0 := Lib.hid hs0
  have S1 := Lib.hid hs1
  have S2 := Lib.hid hs2
  have O0 := Lib.hid ho0
  have O1 := Lib.hid ho1
  have O2 := Lib.hid ho2
  clear hs0 hs1 hs2 ho0 ho1 ho2
  go_enter Try.func6, Try.ntmps6
  go_wp2_with fail
  refine (lives_any _).mono ?_
  rintro e w1 ⟨rfl, hg⟩
  have G1 := Lib.hid hg
  clear hg
  dsimp only
  go_wp2_with fail
  refine (light_any a0 n0 k0 l0 _ (S0.out.old G1.out) O0.out).mono ?_
  rintro e wl ⟨lb, rfl, hlb, rfl⟩
  have HB0 := Lib.hid hlb
  clear hlb
  cases lb
  · dsimp only
    go_wp2
    go_ret
    exact ⟨rfl, below_of G1.out⟩
  have hn0 : n0 ≤ 60 := HB0.out rfl
  clear HB0
  dsimp only
  go_wp2_with fail
  refine (light_any a1 n1 k1 l1 _ (S1.out.old G1.out) O1.out).mono ?_
  rintro e wl ⟨lb, rfl, hlb, rfl⟩
  have HB0 := Lib.hid hlb
  clear hlb
  cases lb
  · dsimp only
    go_wp2
    go_ret
    exact ⟨rfl, below_of G1.out⟩
  have hn1 : n1 ≤ 60 := HB0.out rfl
  clear HB0
  dsimp only
  go_wp2_with fail
  refine (light_any a2 n2 k2 l2 _ (S2.out.old G1.out) O2.out).mono ?_
  rintro e wl ⟨lb, rfl, hlb, rfl⟩
  have HB0 := Lib.hid hlb
  clear hlb
  cases lb
  · dsimp only
    go_wp2
    go_ret
    exact ⟨rfl, below_of G1.out⟩
  have hn2 : n2 ≤ 60 := HB0.out rfl
  clear HB0 O0 O1 O2
  obtain ⟨x, hx⟩ : ∃ v, v = ofZ l0 := ⟨_, rfl⟩
  obtain ⟨y, hy⟩ : ∃ v, v = ofZ l1 := ⟨_, rfl⟩
  obtain ⟨z, hz⟩ : ∃ v, v = ofZ l2 := ⟨_, rfl⟩
  obtain ⟨p, hp⟩ : ∃ v, v = joinZ x y := ⟨_, rfl⟩
  obtain ⟨r, hr⟩ : ∃ v, v = joinZ p z := ⟨_, rfl⟩
  obtain ⟨s, hs⟩ : ∃ v, v = joinZ y z := ⟨_, rfl⟩
  have tx := tiny_of l0 (by rw [HL0.out]; exact hn0)
  have ty := tiny_of l1 (by rw [HL1.out]; exact hn1)
  have tz := tiny_of l2 (by rw [HL2.out]; exact hn2)
  rw [← hx] at tx
  rw [← hy] at ty
  rw [← hz] at tz
  have sx : Small x := by unfold Small; omega
  have sy : Small y := by unfold Small; omega
  have sz : Small z := by unfold Small; omega
  have sp : Small p := by rw [hp]; exact small_join tx ty
  have ss : Small s := by rw [hs]; exact small_join ty tz
  have so : Small zeroZ := by unfold Small; decide
  have gx : Good x := by rw [hx]; exact good_of l0
  have gy : Good y := by rw [hy]; exact good_of l1
  have gz : Good z := by rw [hz]; exact good_of l2
  have HO0 := Lib.hid (fun W (h : CSeg W a0 n0 k0 l0) => Of_any a0 n0 k0 l0 W h (by omega))
  have HO1 := Lib.hid (fun W (h : CSeg W a1 n1 k1 l1) => Of_any a1 n1 k1 l1 W h (by omega))
  have HO2 := Lib.hid (fun W (h : CSeg W a2 n2 k2 l2) => Of_any a2 n2 k2 l2 W h (by omega))
  have HOP := Lib.hid (fun g c W (h : CSeg W (some ⟨g, 0, none⟩) (n0 + n1) c (l0 ++ l1)) => Of_any (some ⟨g, 0, none⟩) (n0 + n1) c (l0 ++ l1) W h (by omega))
  have HON := Lib.hid (fun W => Of_any none 0 0 [] W (CSeg.nil W) (by decide))
  have HXY := Lib.hid (fun W => Join_any x y W sx sy)
  have HYX := Lib.hid (fun W => Join_any y x W sy sx)
  have HPZ := Lib.hid (fun W => Join_any p z W sp sz)
  have HYZ := Lib.hid (fun W => Join_any y z W sy sz)
  have HXS := Lib.hid (fun W => Join_any x s W sx ss)
  have HXO := Lib.hid (fun W => Join_any x zeroZ W sx so)
  rw [← hx] at HO0
  rw [← hy] at HO1
  rw [← hz] at HO2
  rw [of_app, ← hx, ← hy, ← hp] at HOP
  rw [← hp] at HXY
  rw [join_comm gy gx, ← hp] at HYX
  rw [← hr] at HPZ
  rw [← hs] at HYZ
  rw [hs, ← join_assoc gx gy gz, ← hp, ← hr, ← hs] at HXS
  rw [join_zero gx] at HXO
  obtain ⟨o, hoz⟩ : ∃ o, o = zeroZ := ⟨_, rfl⟩
  have HON2 : Hid (∀ W, Calls Try.prog 9 #[.slice none 0 0] W fun e w' => e = .returned (.agg #[.int .i64 o.cnt, .int .i64 o.nul, .int .i64 o.min.k, .int .i64 o.min.n, .string o.min.s, .int .i64 o.max.k, .int .i64 o.max.n, .string o.max.s]) ∧ W.grownBy w' none) := Lib.hid (by rw [hoz]; exact HON.out)
  rw [← hoz] at HXO
  have EP := fun W => eql_zone p p W
  have ER := fun W => eql_zone r r W
  have EX := fun W => eql_zone x x W
  simp only [eqZ_self] at EP ER EX
  have HEP := Lib.hid EP
  have HER := Lib.hid ER
  have HEX := Lib.hid EX
  clear hx hy hz hp hr hs tx ty tz sx sy sz sp ss so gx gy gz HON hoz EP ER EX
  dsimp only
  go_wp2_with fail
  refine (HO0.out _ (S0.out.old G1.out)).mono ?_
  rintro e w2 ⟨rfl, hg⟩
  have G2 := Lib.hid (grown_then G1.out hg)
  clear hg G1 HO0
  dsimp only
  go_wp2_with fail
  refine (HO1.out _ (S1.out.old G2.out)).mono ?_
  rintro e w3 ⟨rfl, hg⟩
  have G3 := Lib.hid (grown_then G2.out hg)
  clear hg G2 HO1
  dsimp only
  go_wp2_with fail
  refine (HO2.out _ (S2.out.old G3.out)).mono ?_
  rintro e w4 ⟨rfl, hg⟩
  have G4 := Lib.hid (grown_then G3.out hg)
  clear hg G3 HO2 S2
  dsimp only
  go_wp2_with fail
  obtain ⟨W5, hW5⟩ : ∃ W, ((w4.alloc (.cells #[.int .i64 x.cnt, .int .i64 x.nul, .int .i64 x.min.k, .int .i64 x.min.n, .string x.min.s, .int .i64 x.max.k, .int .i64 x.max.n, .string x.max.s] 26)).alloc (.cells #[.int .i64 y.cnt, .int .i64 y.nul, .int .i64 y.min.k, .int .i64 y.min.n, .string y.min.s, .int .i64 y.max.k, .int .i64 y.max.n, .string y.max.s] 26)).alloc (.cells #[.int .i64 z.cnt, .int .i64 z.nul, .int .i64 z.min.k, .int .i64 z.min.n, .string z.min.s, .int .i64 z.max.k, .int .i64 z.max.n, .string z.max.s] 26) = W := ⟨_, rfl⟩
  have G5 : Hid (w.grownBy W5 none) := Lib.hid (by rw [← hW5]; exact grown_then G4.out (grown_then (grown_then (grown_alloc _ _) (grown_alloc _ _)) (grown_alloc _ _)))
  have X5 : Hid (ZB W5 w4.heap.size x) := Lib.hid (by rw [← hW5]; exact ((ZB.new w4 x).old (grown_alloc _ _)).old (grown_alloc _ _))
  have Y5 : Hid (ZB W5 (w4.heap.size + 1) y) := Lib.hid (by
    have h := ZB.new (w4.alloc (.cells #[.int .i64 x.cnt, .int .i64 x.nul, .int .i64 x.min.k, .int .i64 x.min.n, .string x.min.s, .int .i64 x.max.k, .int .i64 x.max.n, .string x.max.s] 26)) y
    rw [World.size_alloc] at h
    rw [← hW5]; exact h.old (grown_alloc _ _))
  have Z5 : Hid (ZB W5 (w4.heap.size + 1 + 1) z) := Lib.hid (by
    have h := ZB.new ((w4.alloc (.cells #[.int .i64 x.cnt, .int .i64 x.nul, .int .i64 x.min.k, .int .i64 x.min.n, .string x.min.s, .int .i64 x.max.k, .int .i64 x.max.n, .string x.max.s] 26)).alloc (.cells #[.int .i64 y.cnt, .int .i64 y.nul, .int .i64 y.min.k, .int .i64 y.min.n, .string y.min.s, .int .i64 y.max.k, .int .i64 y.max.n, .string y.max.s] 26)) z
    rw [World.size_alloc, World.size_alloc] at h
    rw [← hW5]; exact h)
  rw [hW5]
  clear hW5 G4
  generalize w4.heap.size = gx at *
  refine (HXY.out _).mono ?_
  rintro e w6 ⟨rfl, hg⟩
  have G6 := Lib.hid (grown_then G5.out hg)
  have X6 := Lib.hid (X5.out.old hg)
  have Y6 := Lib.hid (Y5.out.old hg)
  have Z6 := Lib.hid (Z5.out.old hg)
  clear hg G5 X5 Y5 Z5 HXY
  dsimp only
  go_wp2_with fail
  obtain ⟨W7, hW7⟩ : ∃ W, w6.alloc (.cells #[.int .i64 p.cnt, .int .i64 p.nul, .int .i64 p.min.k, .int .i64 p.min.n, .string p.min.s, .int .i64 p.max.k, .int .i64 p.max.n, .string p.max.s] 26) = W := ⟨_, rfl⟩
  have G7 : Hid (w.grownBy W7 none) := Lib.hid (by rw [← hW7]; exact grown_then G6.out (grown_alloc _ _))
  have XB : Hid (ZB W7 gx x) := Lib.hid (by rw [← hW7]; exact X6.out.old (grown_alloc _ _))
  have YB : Hid (ZB W7 (gx + 1) y) := Lib.hid (by rw [← hW7]; exact Y6.out.old (grown_alloc _ _))
  have ZZ : Hid (ZB W7 (gx + 1 + 1) z) := Lib.hid (by rw [← hW7]; exact Z6.out.old (grown_alloc _ _))
  have PB : Hid (ZB W7 w6.heap.size p) := Lib.hid (by rw [← hW7]; exact ZB.new w6 p)
  rw [hW7]
  clear hW7 G6 X6 Y6 Z6
  generalize w6.heap.size = gp at *
  have SA := Lib.hid (S0.out.old G7.out)
  have SB := Lib.hid (S1.out.old G7.out)
  clear S0 S1
  obtain ⟨xa0, xa1, ⟨xa2, xa3, xa4⟩, xa5, xa6, xa7⟩ := (XB.out.old (grown_refl W7)).cells
  obtain ⟨ya0, ya1, ⟨ya2, ya3, ya4⟩, ya5, ya6, ya7⟩ := (YB.out.old (grown_refl W7)).cells
  obtain ⟨za0, za1, ⟨za2, za3, za4⟩, za5, za6, za7⟩ := (ZZ.out.old (grown_refl W7)).cells
  obtain ⟨pa0, pa1, ⟨pa2, pa3, pa4⟩, pa5, pa6, pa7⟩ := (PB.out.old (grown_refl W7)).cells
  have GC := Lib.hid (grown_drew W7)
  have ep := HEP.out
  have er := HER.out
  have ex := HEX.out
  clear HEP HER HEX
  have HON3 := HON2
  go_region_held3 (fun w' => w'.cell? ⟨gx, 0, none⟩ = some (.int .i64 x.cnt) ∧ w'.cell? ⟨gx, 1, none⟩ = some (.int .i64 x.nul) ∧ w'.cell? ⟨gx, 2, none⟩ = some (.int .i64 x.min.k) ∧ w'.cell? ⟨gx, 3, none⟩ = some (.int .i64 x.min.n) ∧ w'.cell? ⟨gx, 4, none⟩ = some (.string x.min.s) ∧ w'.cell? ⟨gx, 5, none⟩ = some (.int .i64 x.max.k) ∧ w'.cell? ⟨gx, 6, none⟩ = some (.int .i64 x.max.n) ∧ w'.cell? ⟨gx, 7, none⟩ = some (.string x.max.s) ∧ w'.cell? ⟨gx + 1, 0, none⟩ = some (.int .i64 y.cnt) ∧ w'.cell? ⟨gx + 1, 1, none⟩ = some (.int .i64 y.nul) ∧ w'.cell? ⟨gx + 1, 2, none⟩ = some (.int .i64 y.min.k) ∧ w'.cell? ⟨gx + 1, 3, none⟩ = some (.int .i64 y.min.n) ∧ w'.cell? ⟨gx + 1, 4, none⟩ = some (.string y.min.s) ∧ w'.cell? ⟨gx + 1, 5, none⟩ = some (.int .i64 y.max.k) ∧ w'.cell? ⟨gx + 1, 6, none⟩ = some (.int .i64 y.max.n) ∧ w'.cell? ⟨gx + 1, 7, none⟩ = some (.string y.max.s) ∧ w'.cell? ⟨gx + 1 + 1, 0, none⟩ = some (.int .i64 z.cnt) ∧ w'.cell? ⟨gx + 1 + 1, 1, none⟩ = some (.int .i64 z.nul) ∧ w'.cell? ⟨gx + 1 + 1, 2, none⟩ = some (.int .i64 z.min.k) ∧ w'.cell? ⟨gx + 1 + 1, 3, none⟩ = some (.int .i64 z.min.n) ∧ w'.cell? ⟨gx + 1 + 1, 4, none⟩ = some (.string z.min.s) ∧ w'.cell? ⟨gx + 1 + 1, 5, none⟩ = some (.int .i64 z.max.k) ∧ w'.cell? ⟨gx + 1 + 1, 6, none⟩ = some (.int .i64 z.max.n) ∧ w'.cell? ⟨gx + 1 + 1, 7, none⟩ = some (.string z.max.s) ∧ w'.cell? ⟨gp, 0, none⟩ = some (.int .i64 p.cnt) ∧ w'.cell? ⟨gp, 1, none⟩ = some (.int .i64 p.nul) ∧ w'.cell? ⟨gp, 2, none⟩ = some (.int .i64 p.min.k) ∧ w'.cell? ⟨gp, 3, none⟩ = some (.int .i64 p.min.n) ∧ w'.cell? ⟨gp, 4, none⟩ = some (.string p.min.s) ∧ w'.cell? ⟨gp, 5, none⟩ = some (.int .i64 p.max.k) ∧ w'.cell? ⟨gp, 6, none⟩ = some (.int .i64 p.max.n) ∧ w'.cell? ⟨gp, 7, none⟩ = some (.string p.max.s)) (go_keep)
    (first
      | (go_at_call 20; (with_reducible refine (own_any _ _ _ l0 _ (SA.out.old GC.out) (by omega)).mono ?_); rintro e wk ⟨go, ko, rfl, hown, hg⟩; have HGB := Lib.hid hg.size; have HGO := Lib.hid (Nat.le_trans GC.out.size (hown.lt _ rfl).1); have OW := Lib.hid hown; clear hown; have GC := Lib.hid (grown_then GC.out hg); clear hg; clear xa0 xa1 xa2 xa3 xa4 xa5 xa6 xa7 ya0 ya1 ya2 ya3 ya4 ya5 ya6 ya7 za0 za1 za2 za3 za4 za5 za6 za7 pa0 pa1 pa2 pa3 pa4 pa5 pa6 pa7; obtain ⟨xa0, xa1, ⟨xa2, xa3, xa4⟩, xa5, xa6, xa7⟩ := (XB.out.old GC.out).cells; obtain ⟨ya0, ya1, ⟨ya2, ya3, ya4⟩, ya5, ya6, ya7⟩ := (YB.out.old GC.out).cells; obtain ⟨za0, za1, ⟨za2, za3, za4⟩, za5, za6, za7⟩ := (ZZ.out.old GC.out).cells; obtain ⟨pa0, pa1, ⟨pa2, pa3, pa4⟩, pa5, pa6, pa7⟩ := (PB.out.old GC.out).cells)
      | (refine step_append_cseg rfl (.tmp 37) (.tmp 38) rfl _ go n0 ko (flatC l0) rfl OW.out a1 n1 k1 l1 rfl (SB.out.old GC.out) (by omega) HGB.out ?_; intro g9 k9 w9 hown9 hg9; have SG := Lib.hid hown9; have hg : W7.grownBy w9 none := grownBy_trans GC.out hg9 (fun i e => by cases e; exact HGO.out); clear hown9 hg9; have GC := Lib.hid hg; clear hg; clear xa0 xa1 xa2 xa3 xa4 xa5 xa6 xa7 ya0 ya1 ya2 ya3 ya4 ya5 ya6 ya7 za0 za1 za2 za3 za4 za5 za6 za7 pa0 pa1 pa2 pa3 pa4 pa5 pa6 pa7; obtain ⟨xa0, xa1, ⟨xa2, xa3, xa4⟩, xa5, xa6, xa7⟩ := (XB.out.old GC.out).cells; obtain ⟨ya0, ya1, ⟨ya2, ya3, ya4⟩, ya5, ya6, ya7⟩ := (YB.out.old GC.out).cells; obtain ⟨za0, za1, ⟨za2, za3, za4⟩, za5, za6, za7⟩ := (ZZ.out.old GC.out).cells; obtain ⟨pa0, pa1, ⟨pa2, pa3, pa4⟩, pa5, pa6, pa7⟩ := (PB.out.old GC.out).cells)
      | (go_at_call 9; (with_reducible refine (HOP.out _ _ _ (CSeg.own (by rw [flatC_app]; exact SG.out))).mono ?_); rintro e wk ⟨rfl, hg⟩; have GC := Lib.hid (grown_then GC.out hg); clear hg; clear xa0 xa1 xa2 xa3 xa4 xa5 xa6 xa7 ya0 ya1 ya2 ya3 ya4 ya5 ya6 ya7 za0 za1 za2 za3 za4 za5 za6 za7 pa0 pa1 pa2 pa3 pa4 pa5 pa6 pa7; obtain ⟨xa0, xa1, ⟨xa2, xa3, xa4⟩, xa5, xa6, xa7⟩ := (XB.out.old GC.out).cells; obtain ⟨ya0, ya1, ⟨ya2, ya3, ya4⟩, ya5, ya6, ya7⟩ := (YB.out.old GC.out).cells; obtain ⟨za0, za1, ⟨za2, za3, za4⟩, za5, za6, za7⟩ := (ZZ.out.old GC.out).cells; obtain ⟨pa0, pa1, ⟨pa2, pa3, pa4⟩, pa5, pa6, pa7⟩ := (PB.out.old GC.out).cells)
      | (go_at_call 9; (with_reducible refine (HON3.out _).mono ?_); rintro e wk ⟨rfl, hg⟩; have GC := Lib.hid (grown_then GC.out hg); clear hg; clear xa0 xa1 xa2 xa3 xa4 xa5 xa6 xa7 ya0 ya1 ya2 ya3 ya4 ya5 ya6 ya7 za0 za1 za2 za3 za4 za5 za6 za7 pa0 pa1 pa2 pa3 pa4 pa5 pa6 pa7; obtain ⟨xa0, xa1, ⟨xa2, xa3, xa4⟩, xa5, xa6, xa7⟩ := (XB.out.old GC.out).cells; obtain ⟨ya0, ya1, ⟨ya2, ya3, ya4⟩, ya5, ya6, ya7⟩ := (YB.out.old GC.out).cells; obtain ⟨za0, za1, ⟨za2, za3, za4⟩, za5, za6, za7⟩ := (ZZ.out.old GC.out).cells; obtain ⟨pa0, pa1, ⟨pa2, pa3, pa4⟩, pa5, pa6, pa7⟩ := (PB.out.old GC.out).cells)
      | (go_at_call 18; (with_reducible refine (HYX.out _).mono ?_); rintro e wk ⟨rfl, hg⟩; have GC := Lib.hid (grown_then GC.out hg); clear hg; clear xa0 xa1 xa2 xa3 xa4 xa5 xa6 xa7 ya0 ya1 ya2 ya3 ya4 ya5 ya6 ya7 za0 za1 za2 za3 za4 za5 za6 za7 pa0 pa1 pa2 pa3 pa4 pa5 pa6 pa7; obtain ⟨xa0, xa1, ⟨xa2, xa3, xa4⟩, xa5, xa6, xa7⟩ := (XB.out.old GC.out).cells; obtain ⟨ya0, ya1, ⟨ya2, ya3, ya4⟩, ya5, ya6, ya7⟩ := (YB.out.old GC.out).cells; obtain ⟨za0, za1, ⟨za2, za3, za4⟩, za5, za6, za7⟩ := (ZZ.out.old GC.out).cells; obtain ⟨pa0, pa1, ⟨pa2, pa3, pa4⟩, pa5, pa6, pa7⟩ := (PB.out.old GC.out).cells)
      | (go_at_call 18; (with_reducible refine (HPZ.out _).mono ?_); rintro e wk ⟨rfl, hg⟩; have GC := Lib.hid (grown_then GC.out hg); clear hg; clear xa0 xa1 xa2 xa3 xa4 xa5 xa6 xa7 ya0 ya1 ya2 ya3 ya4 ya5 ya6 ya7 za0 za1 za2 za3 za4 za5 za6 za7 pa0 pa1 pa2 pa3 pa4 pa5 pa6 pa7; obtain ⟨xa0, xa1, ⟨xa2, xa3, xa4⟩, xa5, xa6, xa7⟩ := (XB.out.old GC.out).cells; obtain ⟨ya0, ya1, ⟨ya2, ya3, ya4⟩, ya5, ya6, ya7⟩ := (YB.out.old GC.out).cells; obtain ⟨za0, za1, ⟨za2, za3, za4⟩, za5, za6, za7⟩ := (ZZ.out.old GC.out).cells; obtain ⟨pa0, pa1, ⟨pa2, pa3, pa4⟩, pa5, pa6, pa7⟩ := (PB.out.old GC.out).cells)
      | (go_at_call 18; (with_reducible refine (HYZ.out _).mono ?_); rintro e wk ⟨rfl, hg⟩; have GC := Lib.hid (grown_then GC.out hg); clear hg; clear xa0 xa1 xa2 xa3 xa4 xa5 xa6 xa7 ya0 ya1 ya2 ya3 ya4 ya5 ya6 ya7 za0 za1 za2 za3 za4 za5 za6 za7 pa0 pa1 pa2 pa3 pa4 pa5 pa6 pa7; obtain ⟨xa0, xa1, ⟨xa2, xa3, xa4⟩, xa5, xa6, xa7⟩ := (XB.out.old GC.out).cells; obtain ⟨ya0, ya1, ⟨ya2, ya3, ya4⟩, ya5, ya6, ya7⟩ := (YB.out.old GC.out).cells; obtain ⟨za0, za1, ⟨za2, za3, za4⟩, za5, za6, za7⟩ := (ZZ.out.old GC.out).cells; obtain ⟨pa0, pa1, ⟨pa2, pa3, pa4⟩, pa5, pa6, pa7⟩ := (PB.out.old GC.out).cells)
      | (go_at_call 18; (with_reducible refine (HXS.out _).mono ?_); rintro e wk ⟨rfl, hg⟩; have GC := Lib.hid (grown_then GC.out hg); clear hg; clear xa0 xa1 xa2 xa3 xa4 xa5 xa6 xa7 ya0 ya1 ya2 ya3 ya4 ya5 ya6 ya7 za0 za1 za2 za3 za4 za5 za6 za7 pa0 pa1 pa2 pa3 pa4 pa5 pa6 pa7; obtain ⟨xa0, xa1, ⟨xa2, xa3, xa4⟩, xa5, xa6, xa7⟩ := (XB.out.old GC.out).cells; obtain ⟨ya0, ya1, ⟨ya2, ya3, ya4⟩, ya5, ya6, ya7⟩ := (YB.out.old GC.out).cells; obtain ⟨za0, za1, ⟨za2, za3, za4⟩, za5, za6, za7⟩ := (ZZ.out.old GC.out).cells; obtain ⟨pa0, pa1, ⟨pa2, pa3, pa4⟩, pa5, pa6, pa7⟩ := (PB.out.old GC.out).cells)
      | (go_at_call 18; (with_reducible refine (HXO.out _).mono ?_); rintro e wk ⟨rfl, hg⟩; have GC := Lib.hid (grown_then GC.out hg); clear hg; clear xa0 xa1 xa2 xa3 xa4 xa5 xa6 xa7 ya0 ya1 ya2 ya3 ya4 ya5 ya6 ya7 za0 za1 za2 za3 za4 za5 za6 za7 pa0 pa1 pa2 pa3 pa4 pa5 pa6 pa7; obtain ⟨xa0, xa1, ⟨xa2, xa3, xa4⟩, xa5, xa6, xa7⟩ := (XB.out.old GC.out).cells; obtain ⟨ya0, ya1, ⟨ya2, ya3, ya4⟩, ya5, ya6, ya7⟩ := (YB.out.old GC.out).cells; obtain ⟨za0, za1, ⟨za2, za3, za4⟩, za5, za6, za7⟩ := (ZZ.out.old GC.out).cells; obtain ⟨pa0, pa1, ⟨pa2, pa3, pa4⟩, pa5, pa6, pa7⟩ := (PB.out.old GC.out).cells)
      | fail)
  all_goals
    have GE := Lib.hid (grown_then G7.out GC.out)
    go_wp2
    go_ret
    exact ⟨rfl, below_of GE.out⟩
end Go.Proofs.Ytpincfofnlfjiaa.Zn
