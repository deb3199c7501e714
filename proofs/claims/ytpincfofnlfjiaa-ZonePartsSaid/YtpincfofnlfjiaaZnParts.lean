/-
  ZoneParts: what a column's zone does not let be no part's does; a cell that is told of a column is within it.
-/
import Derived.Test.YtpincfofnlfjiaaZnMayL
import Derived.Test.YtpincfofnlfjiaaKitPick
import Derived.Test.YtpincfofnlfjiaaZnThree
namespace Go.Proofs.Ytpincfofnlfjiaa.Zn
open Go.RowKit Bs Dv Dr

/-- cells ahead of the k-th are of the kind (or null) -/
def KindTo (l : List Cel) (kind : Int) (k : Nat) : Prop := ∀ i, i < k → i < l.length → (l.getD i zeroC).k ≠ 0 → (l.getD i zeroC).k = kind
theorem KindTo.next {l : List Cel} {kind : Int} {k : Nat} (h : KindTo l kind k) (h1 : (l.getD k zeroC).k ≠ 0 → (l.getD k zeroC).k = kind) : KindTo l kind (k + 1) := fun i hi hl => by
  by_cases e : i = k
  · subst e; exact h1
  · exact h i (by omega) hl
theorem KindTo.all {l : List Cel} {kind : Int} (h : KindTo l kind l.length) : ∀ x ∈ l, x.k ≠ 0 → x.k = kind := fun x hx => by
  obtain ⟨i, hi, rfl⟩ := List.mem_iff_getElem.1 hx
  have := h i hi hi
  simpa [List.getD, hi] using this

theorem at_eq (a : Act) (d : Nat) : At a d = a.tmps[d]?.getD undef := Array.getD_eq_getD_getElem?
theorem wp_move {P : Program} {o : Oper} {a : Act} {w : World} {x : Operand} {K : Act → World → Prop} {Q : Exit → Act → World → Prop} (ho : o.op = .move x) (h : K (a.put o.dst (a.eval x)) w) : o.wp P a w K Q :=
  wp_yield (by simp [execOp, ho, go_sem]) h

theorem wp_store_zone {w : World} {o : Oper} {a : Act} {K : Act → World → Prop} {Q : Exit → Act → World → Prop} (hgd : o.dst = none) (x y : Operand) (ho : o.op = .store 26 x y)
    (g : Nat) (hx : a.eval x = ptr g) (z : Zon) (hy : a.eval y = zv z) (q : Zon) (hg : ZB w g q)
    (h : ∀ w', ZB w' g z → Turn w w' (· = g) → K a w') : Oper.wp Try.prog o a w K Q := by
  refine wp_store_row _ x y ho g _ hx hy _ _ hg info_zone2 rfl (by simp [Value.oneCell']) ?_
  rw [hgd]
  exact h _ (setRow_heap w g _ _ _ _ hg) ⟨rfl, rfl, rfl, by simp [World.setRow], fun k _ hk => setRow_other w g k _ hk⟩

set_option maxRecDepth 100000 in
set_option maxHeartbeats 8000000 in
theorem parts_any (kind : Int) (a : Option Addr) (n cap : Nat) (l : List Cel) (cut op : Int) (c : Cel) (w : World) (hs : CSeg w a n cap l) (ho : StrsOk l) :
    Calls Try.prog 7 #[.int .i64 kind, .slice a n cap, .int .i64 cut, .int .i64 op, .agg #[.int .i64 c.k, .int .i64 c.n, .string c.s]] w fun e w' => e = .returned (.bool true) ∧ Below w.heap.size w w' := by
  have hcap := hs.le
  have hcap2 := hs.cap
  unfold maxLen at hcap2
  have HL := Lib.hid hs.len
  obtain ⟨W0, hW0⟩ : ∃ W0, w.alloc (.cells #[.int .i64 c.k, .int .i64 c.n, .string c.s] 24) = W0 := ⟨_, rfl⟩
  have G0 : Hid (w.grownBy W0 none) := Lib.hid (by rw [← hW0]; exact grown_alloc _ _)
  have C0 : Hid (CB W0 w.heap.size c) := Lib.hid (by rw [← hW0]; exact CB.new w c)
  have S0 := Lib.hid (hs.old G0.out)
  have HW0 := Lib.hid hW0
  clear hW0 hs
  go_enter Try.func7, Try.ntmps7
  go_wp2_with fail
  rw [HW0.out]
  refine (lives_any _).mono ?_
  rintro e w1 ⟨rfl, hg⟩
  have G1 := Lib.hid (grown_then G0.out hg)
  have C1 := Lib.hid (C0.out.old hg)
  have S1 := Lib.hid (S0.out.old hg)
  clear hg G0 C0 S0 HW0
  dsimp only
  go_wp2_with fail
  refine (light_any a n cap l _ S1.out ho).mono ?_
  rintro e wl ⟨lb, rfl, hlb, rfl⟩
  have HLB := Lib.hid hlb
  clear hlb
  cases lb
  · dsimp only
    go_wp2
    go_ret
    exact ⟨rfl, below_of G1.out⟩
  · have hn60 : n ≤ 60 := HLB.out rfl
    clear HLB
    dsimp only
    go_wp2
    go_loopw [11] (fun iv wx => ∃ k : Nat, iv = .int .i64 k ∧ k ≤ n ∧ KindTo l kind k ∧ wx = w1) (fun iv _ => n - (intOf iv).toNat)
    case atStart => exact ⟨0, rfl, Nat.zero_le _, (fun i hi _ => by omega), rfl⟩
    case round =>
      obtain ⟨k, rfl, hk, hp, rfl⟩ := hrel
      have HP := Lib.hid hp
      clear hp
      by_cases hlt : k < n
      · obtain ⟨B, O, rfl, hcs⟩ := S1.out.form (by omega)
        obtain ⟨c0, c1, c2⟩ := hcs k hlt
        clear hcs
        have HNX := Lib.hid (fun h1 => HP.out.next (k := k) h1)
        obtain ⟨x, hx⟩ : ∃ x, x = l.getD k zeroC := ⟨_, rfl⟩
        rw [← hx] at c0 c1 c2 HNX
        clear hx HP
        by_cases h0 : x.k = 0
        · have q0 : (x.k != 0) = false := by rw [h0]; rfl
          have HP1 := Lib.hid (HNX.out (fun h => absurd h0 h))
          clear HNX h0
          go_wp2
          go_roundw
          case rel => exact ⟨k + 1, by go_num, by omega, HP1.out, trivial⟩
          case measure => simp [intOf]; omega
        · have q0 : (x.k != 0) = true := bne_iff_ne.2 h0
          by_cases h1 : x.k = kind
          · have q1 : (x.k != kind) = false := by rw [h1]; exact bne_self_eq_false _
            have HP1 := Lib.hid (HNX.out (fun _ => h1))
            clear HNX h0 h1
            go_wp2
            go_roundw
            case rel => exact ⟨k + 1, by go_num, by omega, HP1.out, trivial⟩
            case measure => simp [intOf]; omega
          · have q1 : (x.k != kind) = true := bne_iff_ne.2 h1
            clear HNX h0 h1
            go_wp2
            go_ret
            exact ⟨rfl, below_of G1.out⟩
      · obtain rfl : k = n := by omega
        have HALL := Lib.hid (KindTo.all (l := l) (kind := kind) (by rw [HL.out]; exact HP.out))
        clear hlt hk HP
        have hp1 : IntKind.i64.wrap ((k : Int) + 1) = (k : Int) + 1 := IntWalk.i64_in _ (by omega)
        have hr := pick_range cut ((k : Int) + 1) (by omega)
        have HPK := Lib.hid (fun W => pick_any cut ((k : Int) + 1) W (by omega) (by omega))
        obtain ⟨m, hm⟩ : ∃ m : Nat, pick cut ((k : Int) + 1) = (m : Int) := ⟨(pick cut ((k : Int) + 1)).toNat, by omega⟩
        rw [hm] at HPK hr
        have hmk : m ≤ k := by omega
        clear hm
        go_wp2_with fail
        refine (HPK.out _).mono ?_
        rintro e w' ⟨rfl, rfl⟩
        clear HPK
        dsimp only
        go_wp2_with fail
        obtain ⟨z, hz⟩ : ∃ z, z = ofZ l := ⟨_, rfl⟩
        obtain ⟨x, hx⟩ : ∃ x, x = ofZ (l.take m) := ⟨_, rfl⟩
        obtain ⟨y, hy⟩ : ∃ y, y = ofZ (l.drop m) := ⟨_, rfl⟩
        have hlen := HL.out
        obtain ⟨ax, hax⟩ : ∃ ax, ax = (if cap = 0 then a else a.map (·.add (0 * 3))) := ⟨_, rfl⟩
        obtain ⟨ay, hay⟩ : ∃ ay, ay = (if cap = m then a else a.map (·.add (m * 3))) := ⟨_, rfl⟩
        have SX : ∀ W, wr.grownBy W none → CSeg W ax m cap (l.take m) := fun W h => by
          have h1 := (S1.out.old h).sliced (p := 0) (q := m) (Nat.zero_le _) hmk
          rw [← hax] at h1
          simpa using h1
        have SY : ∀ W, wr.grownBy W none → CSeg W ay (k - m) (cap - m) (l.drop m) := fun W h => by
          have h1 := (S1.out.old h).sliced (p := m) (q := k) hmk (Nat.le_refl _)
          rwa [List.take_of_length_le (by omega), ← hay] at h1
        have HOZ := Lib.hid (fun W h => Of_any a k cap l W (S1.out.old h) (by omega))
        have HOX := Lib.hid (fun W h => Of_any ax m cap (l.take m) W (SX W h) (by omega))
        have HOY := Lib.hid (fun W h => Of_any ay (k - m) (cap - m) (l.drop m) W (SY W h) (by omega))
        rw [← hz] at HOZ
        rw [← hx] at HOX
        rw [← hy] at HOY
        refine wp_region_inv_at (I := fun a0 L b W => PI a0 wr.drew (fun i => match i with | 0 => z | 1 => x | _ => y)
          (fun i => match i with | 0 => .slice a k cap | 1 => zv z | 2 => .slice a k cap | 3 => .int .i64 (m : Int) | 4 => .slice ax m cap | 5 => zv x | 6 => .slice a k cap | 7 => .int .i64 (m : Int) | 8 => .slice ay (k - m) (cap - m) | _ => zv y) L b W) (by kernel_rfl) (by kernel_rfl) (PI.start (by simp)) ?_ ?_
        · show ∀ i, i < 16 → _
          refine all_snoc (all_snoc (all_snoc (all_snoc (all_snoc (all_snoc (all_snoc (all_snoc (all_snoc (all_snoc (all_snoc (all_snoc (all_snoc (all_snoc (all_snoc (all_snoc all_nil ?o0) ?o1) ?o2) ?o3) ?o4) ?o5) ?o6) ?o7) ?o8) ?o9) ?o10) ?o11) ?o12) ?o13) ?o14) ?o15
          case o0 =>
            refine StepAt.mk rfl (ns := []) (by kernel_rfl) rfl ?_
            intro L b W _ hn hI
            exact wp_move (x := .tmp 1) rfl (hI.value (grown_refl _) 0 (by omega) ((hI.agr.at_ (by decide)).trans rfl))
          case o2 =>
            refine StepAt.mk rfl (ns := []) (by kernel_rfl) rfl ?_
            intro L b W _ hn hI
            exact wp_move (x := .tmp 1) rfl (hI.value (grown_refl _) 2 (by omega) ((hI.agr.at_ (by decide)).trans rfl))
          case o6 =>
            refine StepAt.mk rfl (ns := []) (by kernel_rfl) rfl ?_
            intro L b W _ hn hI
            exact wp_move (x := .tmp 1) rfl (hI.value (grown_refl _) 6 (by omega) ((hI.agr.at_ (by decide)).trans rfl))
          case o3 =>
            refine StepAt.mk rfl (ns := []) (by kernel_rfl) rfl ?_
            intro L b W _ hn hI
            exact wp_move (x := .tmp 2) rfl (hI.value (grown_refl _) 3 (by omega) ((hI.agr.at_ (by decide)).trans rfl))
          case o7 =>
            refine StepAt.mk rfl (ns := []) (by kernel_rfl) rfl ?_
            intro L b W _ hn hI
            exact wp_move (x := .tmp 2) rfl (hI.value (grown_refl _) 7 (by omega) ((hI.agr.at_ (by decide)).trans rfl))
          case o4 =>
            refine StepAt.mk rfl (ns := [2, 3]) (by kernel_rfl) rfl ?_
            intro L b W _ hn hI
            have e1 : b.tmps[50]?.getD undef = .slice a k cap := (at_eq b 50).symm.trans (hI.vals 2 (by omega) (hn 2 (by simp)))
            have e2 : b.tmps[51]?.getD undef = .int .i64 (m : Int) := (at_eq b 51).symm.trans (hI.vals 3 (by omega) (hn 3 (by simp)))
            refine wp_yield (v := .slice ax m cap) ?_ (hI.value (grown_refl _) 4 (by omega) rfl)
            have hmc : (m : Int) ≤ (cap : Int) := by omega
            simp [go_sem, e1, e2, hmc, hax]
          case o8 =>
            refine StepAt.mk rfl (ns := [6, 7]) (by kernel_rfl) rfl ?_
            intro L b W _ hn hI
            have e1 : b.tmps[54]?.getD undef = .slice a k cap := (at_eq b 54).symm.trans (hI.vals 6 (by omega) (hn 6 (by simp)))
            have e2 : b.tmps[55]?.getD undef = .int .i64 (m : Int) := (at_eq b 55).symm.trans (hI.vals 7 (by omega) (hn 7 (by simp)))
            refine wp_yield (v := .slice ay (k - m) (cap - m)) ?_ (hI.value (grown_refl _) 8 (by omega) rfl)
            have hmc : (m : Int) ≤ (k : Int) := by omega
            simp [go_sem, e1, e2, hmc, hay]
          case o1 =>
            refine StepAt.mk rfl (ns := [0]) (by kernel_rfl) rfl ?_
            intro L b W _ hn hI
            have e1 : b.tmps[48]?.getD undef = .slice a k cap := (at_eq b 48).symm.trans (hI.vals 0 (by omega) (hn 0 (by simp)))
            refine wp_func (v := zv z) (R := fun w' => W.grownBy w' none) (f := 9) (vs := #[.slice a k cap]) ?_ (HOZ.out W (grown_then (grown_drew wr) hI.grown)) (fun w' hg => hI.value hg 1 (by omega) rfl)
            simp [go_sem, e1]
          case o5 =>
            refine StepAt.mk rfl (ns := [4, 1]) (by kernel_rfl) rfl ?_
            intro L b W _ hn hI
            have e1 : b.tmps[52]?.getD undef = .slice ax m cap := (at_eq b 52).symm.trans (hI.vals 4 (by omega) (hn 4 (by simp)))
            refine wp_func (v := zv x) (R := fun w' => W.grownBy w' none) (f := 9) (vs := #[.slice ax m cap]) ?_ (HOX.out W (grown_then (grown_drew wr) hI.grown)) (fun w' hg => hI.value hg 5 (by omega) rfl)
            simp [go_sem, e1]
          case o9 =>
            refine StepAt.mk rfl (ns := [8, 5]) (by kernel_rfl) rfl ?_
            intro L b W _ hn hI
            have e1 : b.tmps[56]?.getD undef = .slice ay (k - m) (cap - m) := (at_eq b 56).symm.trans (hI.vals 8 (by omega) (hn 8 (by simp)))
            refine wp_func (v := zv y) (R := fun w' => W.grownBy w' none) (f := 9) (vs := #[.slice ay (k - m) (cap - m)]) ?_ (HOY.out W (grown_then (grown_drew wr) hI.grown)) (fun w' hg => hI.value hg 9 (by omega) rfl)
            simp [go_sem, e1]
          case o10 =>
            refine StepAt.mk rfl (ns := []) (by kernel_rfl) rfl ?_
            intro L b W h0 hn hI
            refine wp_made (v := ptr W.heap.size) (w' := W.alloc _) ?_ (hI.made 0 (by omega) h0 rfl)
            simp [go_sem, ptr]
          case o11 =>
            refine StepAt.mk rfl (ns := []) (by kernel_rfl) rfl ?_
            intro L b W h0 hn hI
            refine wp_made (v := ptr W.heap.size) (w' := W.alloc _) ?_ (hI.made 1 (by omega) h0 rfl)
            simp [go_sem, ptr]
          case o12 =>
            refine StepAt.mk rfl (ns := []) (by kernel_rfl) rfl ?_
            intro L b W h0 hn hI
            refine wp_made (v := ptr W.heap.size) (w' := W.alloc _) ?_ (hI.made 2 (by omega) h0 rfl)
            simp [go_sem, ptr]
          case o13 =>
            refine StepAt.mk rfl (ns := [10, 1, 9, 0, 1, 10, 11, 12]) (by kernel_rfl) rfl ?_
            intro L b W h0 hn hI
            obtain ⟨g, q, hg, hq, hw⟩ := hI.fill 0 (by omega) (hn 10 (by simp))
            exact wp_store_zone rfl (.tmp 12) (.tmp 49) rfl g hg z (hI.vals 1 (by omega) (hn 1 (by simp))) q hq hw
          case o14 =>
            refine StepAt.mk rfl (ns := [11, 5, 13, 0, 1, 2, 3, 4, 5, 10, 11, 12, 13]) (by kernel_rfl) rfl ?_
            intro L b W h0 hn hI
            obtain ⟨g, q, hg, hq, hw⟩ := hI.fill 1 (by omega) (hn 11 (by simp))
            exact wp_store_zone rfl (.tmp 13) (.tmp 53) rfl g hg x (hI.vals 5 (by omega) (hn 5 (by simp))) q hq hw
          case o15 =>
            refine StepAt.mk rfl (ns := [12, 9, 14, 0, 1, 2, 3, 4, 5, 6, 7, 8, 9, 10, 11, 12, 13, 14]) (by kernel_rfl) rfl ?_
            intro L b W h0 hn hI
            obtain ⟨g, q, hg, hq, hw⟩ := hI.fill 2 (by omega) (hn 12 (by simp))
            exact wp_store_zone rfl (.tmp 14) (.tmp 57) rfl g hg y (hI.vals 9 (by omega) (hn 9 (by simp))) q hq hw
        · intro L b W hL hI
          replace hL : ∀ i, i < 16 → L i = true := hL
          have hform := hI.agr.form
          obtain ⟨g, hb, hd⟩ := hI.box
          obtain ⟨p0, b0, r0⟩ := hb 0 (by omega) (hL 10 (by omega))
          obtain ⟨p1, b1, r1⟩ := hb 1 (by omega) (hL 11 (by omega))
          obtain ⟨p2, b2, r2⟩ := hb 2 (by omega) (hL 12 (by omega))
          rw [if_pos (hL 13 (by omega))] at r0
          rw [if_pos (hL 14 (by omega))] at r1
          rw [if_pos (hL 15 (by omega))] at r2
          replace p0 : At b 12 = ptr (g 0) := p0
          replace p1 : At b 13 = ptr (g 1) := p1
          replace p2 : At b 14 = ptr (g 2) := p2
          replace r0 : ZB W (g 0) z := r0
          replace r1 : ZB W (g 1) x := r1
          replace r2 : ZB W (g 2) y := r2
          have v0 : At b 48 = .slice a k cap := hI.vals 0 (by omega) (hL 0 (by omega))
          have v1 : At b 49 = zv z := hI.vals 1 (by omega) (hL 1 (by omega))
          have v2 : At b 50 = .slice a k cap := hI.vals 2 (by omega) (hL 2 (by omega))
          have v3 : At b 51 = .int .i64 (m : Int) := hI.vals 3 (by omega) (hL 3 (by omega))
          have v4 : At b 52 = .slice ax m cap := hI.vals 4 (by omega) (hL 4 (by omega))
          have v5 : At b 53 = zv x := hI.vals 5 (by omega) (hL 5 (by omega))
          have v6 : At b 54 = .slice a k cap := hI.vals 6 (by omega) (hL 6 (by omega))
          have v7 : At b 55 = .int .i64 (m : Int) := hI.vals 7 (by omega) (hL 7 (by omega))
          have v8 : At b 56 = .slice ay (k - m) (cap - m) := hI.vals 8 (by omega) (hL 8 (by omega))
          have v9 : At b 57 = zv y := hI.vals 9 (by omega) (hL 9 (by omega))
          have GW := Lib.hid (grown_then G1.out (grown_then (grown_drew wr) hI.grown))
          have CW := Lib.hid (C1.out.old (grown_then (grown_drew wr) hI.grown))
          have SW := Lib.hid (S1.out.old (grown_then (grown_drew wr) hI.grown))
          clear hI hb hd hL HOZ HOX HOY SX SY
          rw [List.foldl_cons, List.foldl_cons, List.foldl_cons, List.foldl_cons, List.foldl_cons, List.foldl_cons, List.foldl_cons, List.foldl_cons, List.foldl_cons, List.foldl_cons, List.foldl_cons, List.foldl_cons, List.foldl_cons, List.foldl_nil,
            p0, p1, p2, v0, v1, v2, v3, v4, v5, v6, v7, v8, v9] at hform
          clear p0 p1 p2 v0 v1 v2 v3 v4 v5 v6 v7 v8 v9
          unfold ptr zv at hform
          generalize g 0 = g0 at *
          generalize g 1 = g1 at *
          generalize g 2 = g2 at *
          clear hax hay g
          subst hform
          have R0 := Lib.hid r0
          have R1 := Lib.hid r1
          have R2 := Lib.hid r2
          have HMX : Hid (mayB x op c = true → mayB z op c = true) := Lib.hid (fun h => by
            rw [hz]; rw [hx] at h
            exact may_part l (l.take m) kind op c (fun _ => List.mem_of_mem_take) HALL.out h)
          have HMY : Hid (mayB y op c = true → mayB z op c = true) := Lib.hid (fun h => by
            rw [hz]; rw [hy] at h
            exact may_part l (l.drop m) kind op c (fun _ => List.mem_of_mem_drop) HALL.out h)
          have HIN : Hid (∀ e ∈ l, e.k ≠ 0 → mayB z 1 e = true ∧ mayB z 4 e = true ∧ mayB z 6 e = true) := Lib.hid (fun e he h => by
            have hs : cmpC e e = 0 := cmpC_tot.self e
            rw [hz]
            exact ⟨may_cell l kind 1 e e he HALL.out (isB_iff.2 ⟨h, rfl, by rw [hs]; rfl⟩), may_cell l kind 4 e e he HALL.out (isB_iff.2 ⟨h, rfl, by rw [hs]; rfl⟩), may_cell l kind 6 e e he HALL.out (isB_iff.2 ⟨h, rfl, by rw [hs]; rfl⟩)⟩)
          have HPX := Lib.hid (fun W => May_any x op c W)
          have HPY := Lib.hid (fun W => May_any y op c W)
          have HPZ := Lib.hid (fun W => May_any z op c W)
          obtain ⟨mx, hmx⟩ : ∃ q, q = mayB x op c := ⟨_, rfl⟩
          obtain ⟨my, hmy⟩ : ∃ q, q = mayB y op c := ⟨_, rfl⟩
          obtain ⟨mz, hmz⟩ : ∃ q, q = mayB z op c := ⟨_, rfl⟩
          rw [← hmx] at HPX HMX
          rw [← hmy] at HPY HMY
          rw [← hmz] at HPZ HMX HMY
          clear r0 r1 r2 hz hx hy hmx hmy hmz HALL hlen S1 C1 G1
          obtain ⟨c0, c1, c2⟩ := CW.out.cells
          obtain ⟨x0, x1, ⟨x2, x3, x4⟩, x5, x6, x7⟩ := R1.out.cells
          go_wp2_with fail
          refine (HPX.out _).mono ?_
          rintro e wx ⟨rfl, hg⟩
          have GX := Lib.hid (grown_then GW.out hg)
          have CX := Lib.hid (CW.out.old hg)
          have SX := Lib.hid (SW.out.old hg)
          have ZX := Lib.hid (R0.out.old hg)
          have YX := Lib.hid (R2.out.old hg)
          clear hg c0 c1 c2 x0 x1 x2 x3 x4 x5 x6 x7 CW R0 R1 R2 SW GW HPX
          dsimp only
          obtain ⟨c0, c1, c2⟩ := CX.out.cells
          obtain ⟨x0, x1, ⟨x2, x3, x4⟩, x5, x6, x7⟩ := YX.out.cells
          cases mx
          · go_wp2_with fail
            refine (HPY.out _).mono ?_
            rintro e wy ⟨rfl, hg⟩
            have GQ := Lib.hid (grown_then GX.out hg)
            have CQ := Lib.hid (CX.out.old hg)
            have SQ := Lib.hid (SX.out.old hg)
            have ZQ := Lib.hid (ZX.out.old hg)
            clear hg c0 c1 c2 x0 x1 x2 x3 x4 x5 x6 x7 CX ZX YX SX GX HPY HMX
            dsimp only
            cases my
            · have HM := HMY
              clear HMY
              go_wp2
              go_loopw [16] (fun iv wv => ∃ j : Nat, iv = .int .i64 j ∧ j ≤ k ∧ wy.grownBy wv none) (fun iv _ => k - (intOf iv).toNat)
              case atStart => exact ⟨0, rfl, Nat.zero_le _, grown_refl _⟩
              case round =>
                obtain ⟨j, rfl, hj, hg⟩ := hrel
                have GC := Lib.hid hg
                clear hg
                have ZC := Lib.hid (ZQ.out.old GC.out)
                have CC := Lib.hid (CQ.out.old GC.out)
                by_cases hlt : j < k
                · obtain ⟨B, O, rfl, hcs⟩ := (SQ.out.old GC.out).form (by omega)
                  have hx3 := hcs j hlt
                  have hmem : l.getD j zeroC ∈ l := getD_mem (by rw [HL.out]; exact hlt)
                  obtain ⟨x, hx⟩ : ∃ x, x = l.getD j zeroC := ⟨_, rfl⟩
                  rw [← hx] at hx3 hmem
                  have XC := Lib.hid hx3
                  have hin := HIN.out x hmem
                  clear hcs hx hx3 hmem HIN HM HPZ
                  obtain ⟨x0, x1, x2⟩ := cells_gw XC.out
                  obtain ⟨z0, z1, ⟨z2, z3, z4⟩, z5, z6, z7⟩ := ZC.out.gw
                  have hj0 : (0 : Int) ≤ (j : Int) := by omega
                  have hjk : (j : Int) < (k : Int) := by omega
                  by_cases h0 : x.k = 0
                  · have q0 : (x.k != 0) = false := by rw [h0]; rfl
                    clear h0 hin
                    go_wp2_with fail
                    refine wp_region_grow (by kernel_rfl) ?_
                    repeat (go_big_quiet_step (fail))
                    refine wpQuiet_nil ?_
                    rintro _ ⟨p, rfl⟩
                    have GE := Lib.hid (grown_then GC.out p.grown)
                    go_wp2
                    go_roundw
                    case rel => exact ⟨j + 1, by go_num, by omega, GE.out⟩
                    case measure => simp [intOf]; omega
                  · have q0 : (x.k != 0) = true := bne_iff_ne.2 h0
                    have H1 := Lib.hid (fun W => May_any z 1 x W)
                    have H4 := Lib.hid (fun W => May_any z 4 x W)
                    have H6 := Lib.hid (fun W => May_any z 6 x W)
                    rw [(hin h0).1] at H1
                    rw [(hin h0).2.1] at H4
                    rw [(hin h0).2.2] at H6
                    clear h0 hin
                    go_wp2_with fail
                    refine wp_region_grow (by kernel_rfl) ?_
                    repeat (go_big_quiet_step (first | (go_at_call 16; with_reducible exact Calls.grow_of (H1.out _)) | (go_at_call 16; with_reducible exact Calls.grow_of (H4.out _)) | (go_at_call 16; with_reducible exact Calls.grow_of (H6.out _)) | fail))
                    refine wpQuiet_nil ?_
                    rintro _ ⟨p, rfl⟩
                    have GE := Lib.hid (grown_then GC.out p.grown)
                    go_wp2
                    go_roundw
                    case rel => exact ⟨j + 1, by go_num, by omega, GE.out⟩
                    case measure => simp [intOf]; omega
                · obtain rfl : j = k := by omega
                  clear hlt HIN
                  obtain ⟨z0, z1, ⟨z2, z3, z4⟩, z5, z6, z7⟩ := ZC.out.cells
                  obtain ⟨c0, c1, c2⟩ := CC.out.cells
                  clear HM HPZ
                  go_wp2
                  go_ret
                  exact ⟨rfl, below_of (grown_then GQ.out GC.out)⟩
            · have HM := HMY
              clear HMY
              go_wp2
              go_loopw [16] (fun iv wv => ∃ j : Nat, iv = .int .i64 j ∧ j ≤ k ∧ wy.grownBy wv none) (fun iv _ => k - (intOf iv).toNat)
              case atStart => exact ⟨0, rfl, Nat.zero_le _, grown_refl _⟩
              case round =>
                obtain ⟨j, rfl, hj, hg⟩ := hrel
                have GC := Lib.hid hg
                clear hg
                have ZC := Lib.hid (ZQ.out.old GC.out)
                have CC := Lib.hid (CQ.out.old GC.out)
                by_cases hlt : j < k
                · obtain ⟨B, O, rfl, hcs⟩ := (SQ.out.old GC.out).form (by omega)
                  have hx3 := hcs j hlt
                  have hmem : l.getD j zeroC ∈ l := getD_mem (by rw [HL.out]; exact hlt)
                  obtain ⟨x, hx⟩ : ∃ x, x = l.getD j zeroC := ⟨_, rfl⟩
                  rw [← hx] at hx3 hmem
                  have XC := Lib.hid hx3
                  have hin := HIN.out x hmem
                  clear hcs hx hx3 hmem HIN HM HPZ
                  obtain ⟨x0, x1, x2⟩ := cells_gw XC.out
                  obtain ⟨z0, z1, ⟨z2, z3, z4⟩, z5, z6, z7⟩ := ZC.out.gw
                  have hj0 : (0 : Int) ≤ (j : Int) := by omega
                  have hjk : (j : Int) < (k : Int) := by omega
                  by_cases h0 : x.k = 0
                  · have q0 : (x.k != 0) = false := by rw [h0]; rfl
                    clear h0 hin
                    go_wp2_with fail
                    refine wp_region_grow (by kernel_rfl) ?_
                    repeat (go_big_quiet_step (fail))
                    refine wpQuiet_nil ?_
                    rintro _ ⟨p, rfl⟩
                    have GE := Lib.hid (grown_then GC.out p.grown)
                    go_wp2
                    go_roundw
                    case rel => exact ⟨j + 1, by go_num, by omega, GE.out⟩
                    case measure => simp [intOf]; omega
                  · have q0 : (x.k != 0) = true := bne_iff_ne.2 h0
                    have H1 := Lib.hid (fun W => May_any z 1 x W)
                    have H4 := Lib.hid (fun W => May_any z 4 x W)
                    have H6 := Lib.hid (fun W => May_any z 6 x W)
                    rw [(hin h0).1] at H1
                    rw [(hin h0).2.1] at H4
                    rw [(hin h0).2.2] at H6
                    clear h0 hin
                    go_wp2_with fail
                    refine wp_region_grow (by kernel_rfl) ?_
                    repeat (go_big_quiet_step (first | (go_at_call 16; with_reducible exact Calls.grow_of (H1.out _)) | (go_at_call 16; with_reducible exact Calls.grow_of (H4.out _)) | (go_at_call 16; with_reducible exact Calls.grow_of (H6.out _)) | fail))
                    refine wpQuiet_nil ?_
                    rintro _ ⟨p, rfl⟩
                    have GE := Lib.hid (grown_then GC.out p.grown)
                    go_wp2
                    go_roundw
                    case rel => exact ⟨j + 1, by go_num, by omega, GE.out⟩
                    case measure => simp [intOf]; omega
                · obtain rfl : j = k := by omega
                  clear hlt HIN
                  obtain ⟨z0, z1, ⟨z2, z3, z4⟩, z5, z6, z7⟩ := ZC.out.cells
                  obtain ⟨c0, c1, c2⟩ := CC.out.cells
                  obtain rfl : mz = true := HM.out trivial
                  clear HM
                  go_wp2_with fail
                  refine (HPZ.out _).mono ?_
                  rintro e w9 ⟨rfl, hg⟩
                  have G9 := Lib.hid (grown_then (grown_then GQ.out GC.out) hg)
                  clear hg
                  dsimp only
                  go_wp2
                  go_ret
                  exact ⟨rfl, below_of G9.out⟩
          · clear HPY HMY
            go_wp2_with fail
            clear c0 c1 c2 x0 x1 x2 x3 x4 x5 x6 x7 YX
            have HM := HMX
            have GQ := GX
            have CQ := CX
            have SQ := SX
            have ZQ := ZX
            clear HMX GX CX SX ZX
            go_wp2
            go_loopw [16] (fun iv wv => ∃ j : Nat, iv = .int .i64 j ∧ j ≤ k ∧ wx.grownBy wv none) (fun iv _ => k - (intOf iv).toNat)
            case atStart => exact ⟨0, rfl, Nat.zero_le _, grown_refl _⟩
            case round =>
              obtain ⟨j, rfl, hj, hg⟩ := hrel
              have GC := Lib.hid hg
              clear hg
              have ZC := Lib.hid (ZQ.out.old GC.out)
              have CC := Lib.hid (CQ.out.old GC.out)
              by_cases hlt : j < k
              · obtain ⟨B, O, rfl, hcs⟩ := (SQ.out.old GC.out).form (by omega)
                have hx3 := hcs j hlt
                have hmem : l.getD j zeroC ∈ l := getD_mem (by rw [HL.out]; exact hlt)
                obtain ⟨x, hx⟩ : ∃ x, x = l.getD j zeroC := ⟨_, rfl⟩
                rw [← hx] at hx3 hmem
                have XC := Lib.hid hx3
                have hin := HIN.out x hmem
                clear hcs hx hx3 hmem HIN HM HPZ
                obtain ⟨x0, x1, x2⟩ := cells_gw XC.out
                obtain ⟨z0, z1, ⟨z2, z3, z4⟩, z5, z6, z7⟩ := ZC.out.gw
                have hj0 : (0 : Int) ≤ (j : Int) := by omega
                have hjk : (j : Int) < (k : Int) := by omega
                by_cases h0 : x.k = 0
                · have q0 : (x.k != 0) = false := by rw [h0]; rfl
                  clear h0 hin
                  go_wp2_with fail
                  refine wp_region_grow (by kernel_rfl) ?_
                  repeat (go_big_quiet_step (fail))
                  refine wpQuiet_nil ?_
                  rintro _ ⟨p, rfl⟩
                  have GE := Lib.hid (grown_then GC.out p.grown)
                  go_wp2
                  go_roundw
                  case rel => exact ⟨j + 1, by go_num, by omega, GE.out⟩
                  case measure => simp [intOf]; omega
                · have q0 : (x.k != 0) = true := bne_iff_ne.2 h0
                  have H1 := Lib.hid (fun W => May_any z 1 x W)
                  have H4 := Lib.hid (fun W => May_any z 4 x W)
                  have H6 := Lib.hid (fun W => May_any z 6 x W)
                  rw [(hin h0).1] at H1
                  rw [(hin h0).2.1] at H4
                  rw [(hin h0).2.2] at H6
                  clear h0 hin
                  go_wp2_with fail
                  refine wp_region_grow (by kernel_rfl) ?_
                  repeat (go_big_quiet_step (first | (go_at_call 16; with_reducible exact Calls.grow_of (H1.out _)) | (go_at_call 16; with_reducible exact Calls.grow_of (H4.out _)) | (go_at_call 16; with_reducible exact Calls.grow_of (H6.out _)) | fail))
                  refine wpQuiet_nil ?_
                  rintro _ ⟨p, rfl⟩
                  have GE := Lib.hid (grown_then GC.out p.grown)
                  go_wp2
                  go_roundw
                  case rel => exact ⟨j + 1, by go_num, by omega, GE.out⟩
                  case measure => simp [intOf]; omega
              · obtain rfl : j = k := by omega
                clear hlt HIN
                obtain ⟨z0, z1, ⟨z2, z3, z4⟩, z5, z6, z7⟩ := ZC.out.cells
                obtain ⟨c0, c1, c2⟩ := CC.out.cells
                obtain rfl : mz = true := HM.out trivial
                clear HM
                go_wp2_with fail
                refine (HPZ.out _).mono ?_
                rintro e w9 ⟨rfl, hg⟩
                have G9 := Lib.hid (grown_then (grown_then GQ.out GC.out) hg)
                clear hg
                dsimp only
                go_wp2
                go_ret
                exact ⟨rfl, below_of G9.out⟩
end Go.Proofs.Ytpincfofnlfjiaa.Zn
