/-
  Slices of cells: parts, what is owned, appended; Own; LightCells.
-/
import Derived.Test.YtpincfofnlfjiaaZnOf
namespace Go.Proofs.Ytpincfofnlfjiaa.Zn
open Go.RowKit Bs Dv

theorem flatC_take (l : List Cel) (m : Nat) : flatC (l.take m) = (flatC l).take (m * 3) := by
  induction l generalizing m with
  | nil => simp [flatC]
  | cons c l ih =>
    cases m with
    | zero => simp [flatC]
    | succ m =>
      rw [show (m + 1) * 3 = m * 3 + 1 + 1 + 1 from by omega]
      simp only [List.take_succ_cons, flatC, ih]
theorem flatC_drop (l : List Cel) (m : Nat) : flatC (l.drop m) = (flatC l).drop (m * 3) := by
  induction l generalizing m with
  | nil => simp [flatC]
  | cons c l ih =>
    cases m with
    | zero => simp [flatC]
    | succ m =>
      rw [show (m + 1) * 3 = m * 3 + 1 + 1 + 1 from by omega]
      simp only [List.drop_succ_cons, flatC, ih]
theorem CSeg.own {w : World} {base e g n c : Nat} {l : List Cel} (h : w.ownsRow base e 3 (.slice (some ⟨g, 0, none⟩) n c) n (flatC l)) : CSeg w (some ⟨g, 0, none⟩) n c l := by
  have hl : l.length = n := by have := h.1; rw [flatC_len] at this; omega
  refine ⟨hl, ?_, ?_, fun e => by (cases e), ?_⟩
  · rcases h.2 with ⟨e, _⟩ | ⟨g', cap, cur, e, _, _, h1, h2, _⟩
    · cases e
    · cases e; exact h1
  · rcases h.2 with ⟨e, _⟩ | ⟨g', cap, cur, e, _, _, h1, h2, _⟩
    · cases e
    · cases e; exact h2
  · intro ad had j u hu
    cases had
    exact h.cells rfl j u hu
theorem CSeg.take {w : World} {a : Option Addr} {n c m : Nat} {l : List Cel} (h : CSeg w a n c l) (hm : m ≤ n) : CSeg w a m c (l.take m) := by
  refine ⟨by rw [List.length_take, h.len]; omega, Nat.le_trans hm h.le, h.cap, fun e => ⟨by have := (h.nil_ e).1; omega, (h.nil_ e).2⟩, fun ad had j u hu => h.at_ ad had j u ?_⟩
  rw [flatC_take] at hu
  have hj : j < m * 3 := by
    have := (List.getElem?_eq_some_iff.1 hu).1
    rw [List.length_take] at this
    omega
  rwa [List.getElem?_take_of_lt hj] at hu
theorem CSeg.dropAd {w : World} {x : Addr} {n c k : Nat} {l : List Cel} (h : CSeg w (some x) n c l) (hk : k ≤ n) : CSeg w (some (x.add (k * 3))) (n - k) (c - k) (l.drop k) := by
  refine ⟨by rw [List.length_drop, h.len], by have := h.le; omega, by have := h.cap; omega, (fun e => by cases e), fun ad had j u hu => ?_⟩
  cases had
  rw [flatC_drop, List.getElem?_drop] at hu
  rw [Go.Deep.add_add]
  exact h.at_ _ rfl (k * 3 + j) u hu
theorem CSeg.empty (w : World) (x : Addr) (c : Nat) (hc : c ≤ maxLen) : CSeg w (some x) 0 c [] := ⟨rfl, Nat.zero_le _, hc, (fun e => by cases e), fun _ _ j u hu => by simp [flatC] at hu⟩
/-- A literal of cells. -/
theorem CSeg.lit (w : World) (l : List Cel) (hl : l.length ≤ 1000) : CSeg (w.alloc (.cells (flatC l).toArray 24)) (some ⟨w.heap.size, 0, none⟩) l.length l.length l := by
  refine ⟨rfl, Nat.le_refl _, by unfold maxLen; omega, (fun e => by cases e), fun ad had j u hu => ?_⟩
  cases had
  rw [Addr.add_lit, Nat.zero_add, cell_of_row _ _ _ _ _ _ (heap_alloc_new w _)]
  simpa using hu

theorem info_cellz : (Try.prog.info? 24).map (fun i => (i.zero, i.size, i.bytes)) = some (some (.agg #[.int .i64 0, .int .i64 0, .string ⟨#[]⟩]), 3, 32) := by kernel_rfl
theorem infoC_parts : ∃ i, Try.prog.info? 24 = some i ∧ i.zero = some (.agg #[.int .i64 0, .int .i64 0, .string ⟨#[]⟩]) ∧ i.size = 3 ∧ i.bytes = 32 := by
  have h := info_cellz
  cases hq : Try.prog.info? 24 with
  | none => rw [hq] at h; cases h
  | some i =>
    rw [hq] at h
    simp only [Option.map_some, Option.some.injEq, Prod.mk.injEq] at h
    exact ⟨i, rfl, h.1, h.2.1, h.2.2⟩

/-- 'append(v, s...)' onto a row of the call's own that is not nil, s any slice of cells, nil too. -/
theorem wp_append_cseg {w : World} {o : Oper} {a : Act} {K : Act → World → Prop} {Q : Exit → Act → World → Prop} (s x : Operand)
    (ho : o.op = .call { callee := .builtin .append, args := #[s, x], argTypes := #[29, 29] }) (base : Nat)
    (g n0 c0 : Nat) (xs : List Value) (hs : a.eval s = .slice (some ⟨g, 0, none⟩) n0 c0) (hown : w.ownsRow base 24 3 (.slice (some ⟨g, 0, none⟩) n0 c0) n0 xs)
    (sp : Option Addr) (n c : Nat) (l : List Cel) (hx : a.eval x = .slice sp n c) (hseg : CSeg w sp n c l) (hbytes : (n0 + n) * 32 ≤ 140737488355328) (hbase : base ≤ w.heap.size)
    (h : ∀ g' c' w', w'.ownsRow base 24 3 (.slice (some ⟨g', 0, none⟩) (n0 + n) c') (n0 + n) (xs ++ flatC l) → w.grownBy w' (some g) → K (a.put o.dst (.slice (some ⟨g', 0, none⟩) (n0 + n) c')) w') : o.wp Try.prog a w K Q := by
  obtain ⟨i, hi, hz, hsize, hby⟩ := infoC_parts
  cases sp with
  | none =>
    obtain ⟨rfl, rfl⟩ := hseg.nil_ rfl
    obtain rfl := List.eq_nil_of_length_eq_zero hseg.len
    have hrun := run_append_owned_none (P := Try.prog) (w := w) base 29 o.type 24 i 3 Try.underlying29 hi _ n0 xs hown
    unfold Oper.wp
    simp [execOp, ho, resolve, invoke, builtin, hs, hx, hrun, Result.andThen]
    exact h g c0 w (by simpa [flatC] using hown) ⟨rfl, rfl, rfl, Nat.le_refl _, fun _ _ _ => rfl⟩
  | some ad =>
    refine wp_append_own w s x 29 ho base 24 i (.agg #[.int .i64 0, .int .i64 0, .string ⟨#[]⟩]) 3 32 Try.underlying29 hi hz hsize hby rfl (by decide) _ n0 xs hs hown ad n c (flatC l) hx (by rw [flatC_len, hseg.len]) (hseg.at_ ad rfl) (flatC_one l) (by unfold maxLen; omega) (by omega) hbase ?_
    intro v' w1 hown1 hg1 hnil
    rcases hown1.2 with ⟨e1, _⟩ | ⟨g', c', cur, e1, _⟩
    · exact absurd (hnil.1 e1).1 (by simp)
    · subst e1
      exact h g' c' w1 hown1 hg1
theorem wpList_append_cseg {w : World} {ops : Array Oper} {rest : List Oper} {o : Oper} {a : Act} {Q : Exit → Act → World → Prop} (hgd : o.guard = none) (s x : Operand)
    (ho : o.op = .call { callee := .builtin .append, args := #[s, x], argTypes := #[29, 29] }) (base : Nat)
    (g n0 c0 : Nat) (xs : List Value) (hs : a.eval s = .slice (some ⟨g, 0, none⟩) n0 c0) (hown : w.ownsRow base 24 3 (.slice (some ⟨g, 0, none⟩) n0 c0) n0 xs)
    (sp : Option Addr) (n c : Nat) (l : List Cel) (hx : a.eval x = .slice sp n c) (hseg : CSeg w sp n c l) (hbytes : (n0 + n) * 32 ≤ 140737488355328) (hbase : base ≤ w.heap.size)
    (h : ∀ g' c' w', w'.ownsRow base 24 3 (.slice (some ⟨g', 0, none⟩) (n0 + n) c') (n0 + n) (xs ++ flatC l) → w.grownBy w' (some g) → wpList Try.prog ops Q rest (a.put o.dst (.slice (some ⟨g', 0, none⟩) (n0 + n) c')) w') : wpList Try.prog ops Q (o :: rest) a w :=
  wpList_plain hgd fun _ hK => wp_append_cseg s x ho base g n0 c0 xs hs hown sp n c l hx hseg hbytes hbase fun g' c' w' h1 h2 => hK _ _ (h g' c' w' h1 h2)
theorem step_append_cseg {w : World} {ops : Array Oper} {o : Oper} {a : Act} {K : Act → World → Prop} {Q : Exit → Act → World → Prop} {E : Prop} (hgd : o.guard = none) (s x : Operand)
    (ho : o.op = .call { callee := .builtin .append, args := #[s, x], argTypes := #[29, 29] }) (base : Nat)
    (g n0 c0 : Nat) (xs : List Value) (hs : a.eval s = .slice (some ⟨g, 0, none⟩) n0 c0) (hown : w.ownsRow base 24 3 (.slice (some ⟨g, 0, none⟩) n0 c0) n0 xs)
    (sp : Option Addr) (n c : Nat) (l : List Cel) (hx : a.eval x = .slice sp n c) (hseg : CSeg w sp n c l) (hbytes : (n0 + n) * 32 ≤ 140737488355328) (hbase : base ≤ w.heap.size)
    (h : ∀ g' c' w', w'.ownsRow base 24 3 (.slice (some ⟨g', 0, none⟩) (n0 + n) c') (n0 + n) (xs ++ flatC l) → w.grownBy w' (some g) → K (a.put o.dst (.slice (some ⟨g', 0, none⟩) (n0 + n) c')) w') : if Region.wanted o (yielded ops a.tmps) = true then Oper.wp Try.prog o a w K Q else E := by
  have hw : Region.wanted o (yielded ops a.tmps) = true := by simp [Region.wanted, hgd]
  rw [if_pos hw]
  exact wp_append_cseg s x ho base g n0 c0 xs hs hown sp n c l hx hseg hbytes hbase h

/-- Own: new memory that reads as l. -/
def OwnC (w : World) (n : Nat) (l : List Cel) (e : Ending) (w' : World) : Prop :=
  ∃ g c, e = .returned (.slice (some ⟨g, 0, none⟩) n c) ∧ w'.ownsRow w.heap.size 24 3 (.slice (some ⟨g, 0, none⟩) n c) n (flatC l) ∧ w.grownBy w' none

set_option maxHeartbeats 1000000 in
theorem own_any (a0 : Option Addr) (n c0 : Nat) (l : List Cel) (w : World) (h0 : CSeg w a0 n c0 l) (hn : n * 32 ≤ 140737488355328) :
    Calls Try.prog 20 #[.slice a0 n c0] w (OwnC w n l) := by
  have hown := World.ownsRow_made (base := w.heap.size) (e := 24) (size := 3) w #[] 0 (Nat.le_refl _) (by unfold maxLen; omega) rfl
  have HS := Lib.hid (h0.old (grown_alloc w (.cells #[] 24)))
  clear h0
  go_enter Try.func20, Try.ntmps20
  go_wp2_with (at_builtin; refine wpList_append_cseg rfl (.tmp 3) (.tmp 4) rfl w.heap.size w.heap.size 0 0 [] rfl hown a0 n c0 l rfl HS.out (by omega) (by simp) ?_; intro g c w1 hown1 hgrow1)
  rw [Nat.zero_add, List.nil_append] at hown1
  have HE : Hid (OwnC w n l (.returned (.slice (some ⟨g, 0, none⟩) n c)) w1) := Lib.hid ⟨g, c, rfl, hown1, grownBy_trans (grown_alloc w _) hgrow1 (fun i e => by cases e; exact Nat.le_refl _)⟩
  clear hown1 hgrow1
  go_wp2
  go_ret
  first | exact HE.out | (rw [Nat.zero_add]; exact HE.out)

/-- Are cells gone through? Then they are few. -/
def LightX (n most : Nat) (w : World) (e : Ending) (w' : World) : Prop := ∃ b : Bool, e = .returned (.bool b) ∧ (b = true → n ≤ most) ∧ w = w'
def StrsOk (l : List Cel) : Prop := ∀ x ∈ l, x.s.size ≤ 140737488355328
theorem StrsOk.at {l : List Cel} (h : StrsOk l) (k : Nat) : (l.getD k zeroC).s.size ≤ 140737488355328 := by
  by_cases hk : k < l.length
  · rw [List.getD_eq_getElem?_getD, List.getElem?_eq_getElem hk]; exact h _ (List.getElem_mem hk)
  · rw [List.getD_eq_getElem?_getD, List.getElem?_eq_none (Nat.not_lt.1 hk)]; show (0 : Nat) ≤ _; omega

set_option maxRecDepth 100000 in
set_option maxHeartbeats 2000000 in
theorem lightCells_any (a : Option Addr) (n c : Nat) (l : List Cel) (w : World) (hs : CSeg w a n c l) (ho : StrsOk l) :
    Calls Try.prog 29 #[.slice a n c, .int .i64 60, .int .i64 600] w (LightX n 60 w) := by
  have hcap := hs.le
  have hcap2 := hs.cap
  unfold maxLen at hcap2
  have HS := Lib.hid hs
  clear hs
  have H0 : Hid (LightX n 60 w (.returned (.bool false)) w) := Lib.hid ⟨false, rfl, (fun h => by cases h), rfl⟩
  by_cases h60 : 60 < n
  · have h60' : (60 : Int) < n := by omega
    clear h60
    go_enter Try.func29, Try.ntmps29
    go_wp2
    go_ret
    exact H0.out
  · have h60' : ¬ (60 : Int) < n := by omega
    have H1 : Hid (LightX n 60 w (.returned (.bool true)) w) := Lib.hid ⟨true, rfl, (fun _ => by omega), rfl⟩
    clear h60
    go_enter Try.func29, Try.ntmps29
    go_wp2
    go_loop [7, 8] (fun tv iv => ∃ k t : Nat, tv = .int .i64 t ∧ iv = .int .i64 k ∧ k ≤ n ∧ t ≤ 600) (fun _ iv => n - (intOf iv).toNat)
    case atStart => exact ⟨0, 0, rfl, rfl, Nat.zero_le _, Nat.zero_le _⟩
    case round =>
      obtain ⟨k, t, rfl, rfl, hk, ht⟩ := hrel
      by_cases hlt : k < n
      · obtain ⟨B, O, rfl, hcs⟩ := HS.out.form (by omega)
        obtain ⟨-, -, c2⟩ := hcs k hlt
        clear hcs
        have hz := ho.at k
        obtain ⟨s, hs⟩ : ∃ s, s = (l.getD k zeroC).s := ⟨_, rfl⟩
        rw [← hs] at c2 hz
        clear hs
        have hw : IntKind.i64.wrap ((t : Int) + (s.size : Int)) = (t : Int) + (s.size : Int) := IntWalk.i64_in _ (by omega)
        by_cases h6 : 600 < t + s.size
        · have h6' : (600 : Int) < (t : Int) + (s.size : Int) := by omega
          clear h6
          go_wp2
          go_ret
          exact H0.out
        · have h6' : ¬ (600 : Int) < (t : Int) + (s.size : Int) := by omega
          have HT := Lib.hid (show t + s.size ≤ 600 by omega)
          clear h6
          go_wp2
          go_round
          case rel => exact ⟨k + 1, t + s.size, by go_num, by go_num, by omega, HT.out⟩
          case measure => simp [intOf]; omega
      · obtain rfl : k = n := by omega
        clear hlt
        go_wp2
        go_ret
        exact H1.out
set_option maxHeartbeats 1000000 in
theorem light_any (a : Option Addr) (n c : Nat) (l : List Cel) (w : World) (hs : CSeg w a n c l) (ho : StrsOk l) :
    Calls Try.prog 19 #[.slice a n c] w (LightX n 60 w) := by
  have H := Lib.hid (lightCells_any a n c l w hs ho)
  clear hs ho
  go_enter Try.func19, Try.ntmps19
  go_wp2_with fail
  refine H.out.mono ?_
  rintro e w' ⟨b, rfl, hb, rfl⟩
  have HB := Lib.hid hb
  clear hb
  dsimp only
  go_wp2
  go_ret
  exact ⟨b, rfl, HB.out, rfl⟩
end Go.Proofs.Ytpincfofnlfjiaa.Zn
