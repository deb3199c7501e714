/-
  Columns of numbers packed; all forms; Get's answer: plain facts on lists, no program.
-/
import Derived.Test.YteolpjlpjjjchaaInNum
namespace Go.Proofs.Yteolpjlpjjjchaa.In
open Oct (putB ofB varB readV)
open Pk (wid putR getR IsU Fit sizeN canB)
open Is (IsI)

/-- the smallest number, 0 of none -/
def minL : List Int → Int
  | [] => 0
  | x :: t => t.foldl min x
theorem minL_snoc (l : List Int) (x : Int) (h : l ≠ []) : minL (l ++ [x]) = min (minL l) x := by
  cases l with
  | nil => exact absurd rfl h
  | cons y t => simp [minL, List.foldl_append]
theorem foldl_min (t : List Int) : ∀ x : Int, (t.foldl min x = x ∨ t.foldl min x ∈ t) ∧ t.foldl min x ≤ x ∧ ∀ y ∈ t, t.foldl min x ≤ y := by
  induction t with
  | nil => intro x; simp
  | cons z t ih =>
    intro x
    obtain ⟨h1, h2, h3⟩ := ih (min x z)
    rw [List.foldl_cons]
    refine ⟨?_, by omega, fun y hy => ?_⟩
    · rcases h1 with h1 | h1
      · rw [h1]
        by_cases hxz : x ≤ z
        · exact .inl (by omega)
        · exact .inr (by rw [show min x z = z from by omega]; simp)
      · exact .inr (by simp [h1])
    · rcases List.mem_cons.1 hy with rfl | hy
      · omega
      · exact h3 y hy
theorem minL_mem (l : List Int) (h : l ≠ []) : minL l ∈ l := by
  cases l with
  | nil => exact absurd rfl h
  | cons x t =>
    rcases (foldl_min t x).1 with h | h
    · show t.foldl min x ∈ _; rw [h]; simp
    · show t.foldl min x ∈ _; simp [h]
theorem minL_le (l : List Int) : ∀ x ∈ l, minL l ≤ x := by
  cases l with
  | nil => intro x hx; cases hx
  | cons y t =>
    intro x hx
    show t.foldl min y ≤ x
    rcases List.mem_cons.1 hx with rfl | hx
    · exact (foldl_min t x).2.1
    · exact (foldl_min t y).2.2 x hx
/-- the same numbers, whatever their order and how often -/
theorem minL_same (l m : List Int) (h : ∀ x, x ∈ l ↔ x ∈ m) : minL l = minL m := by
  cases l with
  | nil =>
    cases m with
    | nil => rfl
    | cons y t => have := (h y).2 (by simp); cases this
  | cons x t =>
    have hm : m ≠ [] := fun e => by subst e; have := (h x).1 (by simp); cases this
    have h1 := minL_le m _ ((h _).1 (minL_mem (x :: t) (by simp)))
    have h2 := minL_le (x :: t) _ ((h _).2 (minL_mem m hm))
    omega
theorem minL_isI (l : List Int) (h : IsI l) : -9223372036854775808 ≤ minL l ∧ minL l ≤ 9223372036854775807 := by
  cases l with
  | nil => exact ⟨by decide, by decide⟩
  | cons x t => exact h _ (minL_mem _ (by simp))

/-- what numbers have above the smallest one -/
def offs (l : List Int) : List Int := l.map (fun v => u (v - minL l))
theorem offs_length (l : List Int) : (offs l).length = l.length := by simp [offs]
theorem offs_isU (l : List Int) : IsU (offs l) := by
  intro x hx
  obtain ⟨v, _, rfl⟩ := List.mem_map.1 hx
  exact u_bd _
theorem off_eq (l : List Int) (h : IsI l) (v : Int) (hv : v ∈ l) : u (v - minL l) = v - minL l := by
  have h1 := minL_le l v hv
  have h2 := minL_isI l h
  have h3 := h v hv
  unfold u
  omega

def packedB (l : List Int) : List Int := num8 (minL l) ++ [((wid (offs l) : Nat) : Int)] ++ (putR (offs l) (wid (offs l))).2
theorem put_yes (l : List Int) (hl : l.length ≤ 65536) : (putR (offs l) (wid (offs l))).1 = 0 := by
  have := Pk.wid_64 (offs_isU l)
  exact (Pk.put_ok _ _).2 ⟨(Pk.canB_iff _ _).2 (by rw [offs_length]; omega), by omega⟩
theorem packed_length (l : List Int) (hl : l.length ≤ 65536) : (packedB l).length = 9 + sizeN l.length (wid (offs l)) := by
  have h := Pk.put_size (offs l) (wid (offs l)) (put_yes l hl)
  have hw := Pk.wid_64 (offs_isU l)
  unfold Pk.sizeF at h
  rw [offs_length, if_pos ((Pk.canB_iff _ _).2 (by omega)), Int.toNat_natCast, Int.toNat_natCast] at h
  unfold packedB
  rw [List.length_append, List.length_append, num8_length]
  simp only [List.length_singleton]
  omega
theorem packedB_isB (l : List Int) : Oct.IsB (packedB l) := by
  have hw := Pk.wid_64 (offs_isU l)
  refine isB_app (isB_app (num8_isB _) ?_) (Pk.Fit.isB (Pk.put_isB _ _))
  intro x hx
  simp only [List.mem_singleton] at hx
  omega

/-- one number above the smallest one -/
def above (b : List Int) (v : Int) : Int := sg ((ofB (b.take 8) + v) % 18446744073709551616)
def decK (chk : Bool) (n : Nat) (b : List Int) : Option (List Int) :=
  if b.length < 9 then none
  else if (getR (b.drop 9) n (b.getD 8 0)).1 ≠ 0 then none
  else if chk = true ∧ ¬ (minL ((getR (b.drop 9) n (b.getD 8 0)).2.map (above b)) = sg (ofB (b.take 8)) ∧ ((wid (getR (b.drop 9) n (b.getD 8 0)).2 : Nat) : Int) = b.getD 8 0) then none
  else some ((getR (b.drop 9) n (b.getD 8 0)).2.map (above b))

theorem decK_enc (chk : Bool) (l : List Int) (h : IsI l) (hl : l.length ≤ 65536) : decK chk l.length (packedB l) = some l := by
  have hok := put_yes l hl
  have hg := Pk.get_put (offs l) (wid (offs l)) (offs_isU l) hok
  rw [offs_length] at hg
  have e1 : (packedB l).take 8 = num8 (minL l) := by
    unfold packedB; rw [List.append_assoc, List.take_left' (num8_length _)]
  have e2 : (packedB l).drop 9 = (putR (offs l) (wid (offs l))).2 := by
    unfold packedB; rw [List.drop_left' (by rw [List.length_append, num8_length]; rfl)]
  have e3 : (packedB l).getD 8 0 = ((wid (offs l) : Nat) : Int) := by
    unfold packedB
    rw [List.getD_eq_getElem?_getD, List.append_assoc, List.getElem?_append_right (by rw [num8_length]; omega), num8_length]; rfl
  have e4 : (offs l).map (above (packedB l)) = l := by
    unfold offs
    rw [List.map_map]
    conv => rhs; rw [← List.map_id l]
    apply List.map_congr_left
    intro v hv
    have hvI := h v hv
    show above (packedB l) (u (v - minL l)) = v
    unfold above
    rw [e1, ofB_num8, off_eq l h v hv]
    have : (u (minL l) + (v - minL l)) % 18446744073709551616 = u v := by unfold u; omega
    rw [this, sg_u _ hvI.1 hvI.2]
  have hm := minL_isI l h
  unfold decK
  rw [e1, e2, e3, hg, if_neg (by rw [packed_length l hl]; omega), if_neg (by simp)]
  simp only [e4]
  rw [if_neg (by
    rintro ⟨_, hn⟩
    exact hn ⟨by rw [ofB_num8, sg_u _ hm.1 hm.2], trivial⟩)]
theorem decK_true (chk : Bool) (n : Nat) (b l : List Int) (hb : Oct.IsB b) (h : decK chk n b = some l) : l.length = n ∧ IsI l ∧ (chk = true → b = packedB l) := by
  unfold decK at h
  split at h
  · cases h
  · rename_i h9
    split at h
    · cases h
    · rename_i he
      have he : (getR (b.drop 9) n (b.getD 8 0)).1 = 0 := by simpa using he
      obtain ⟨p1, p2, p3, p4⟩ := Pk.put_get (b.drop 9) n (b.getD 8 0) (Pk.fit_isB (isB_drop hb 9)) he
      split at h
      · cases h
      · rename_i hc
        simp only [Option.some.injEq] at h
        obtain ⟨A, hA⟩ : ∃ A, A = (getR (b.drop 9) n (b.getD 8 0)).2 := ⟨_, rfl⟩
        rw [← hA] at h hc p1 p2 p3 p4
        obtain ⟨z, hz⟩ : ∃ z, z = ofB (b.take 8) := ⟨_, rfl⟩
        have ht : (b.take 8).length = 8 := by rw [List.length_take]; omega
        have hzb := ofB_bd8 _ (isB_take hb 8) ht
        have hz8 := num8_sg _ (isB_take hb 8) ht
        rw [← hz] at hzb hz8 hc
        have hI : IsI l := by
          rw [← h]
          intro x hx
          obtain ⟨v, _, rfl⟩ := List.mem_map.1 hx
          exact sg_bd _ (by omega) (by omega)
        refine ⟨by rw [← h, List.length_map]; omega, hI, fun hchk => ?_⟩
        obtain ⟨c1, c2⟩ := Classical.not_not.1 (fun hn => hc ⟨hchk, hn⟩)
        have c1' : minL l = sg z := by rw [← h]; exact c1
        have e : offs l = A := by
          unfold offs
          rw [c1', ← h, List.map_map]
          conv => rhs; rw [← List.map_id A]
          apply List.map_congr_left
          intro v hv
          have hv2 := p4 v hv
          show u (above b v - sg z) = v
          unfold above
          rw [← hz]
          unfold u sg
          split <;> split <;> omega
        have c2' : b.getD 8 0 = ((wid A : Nat) : Int) := c2.symm
        unfold packedB
        rw [c1', e, hz8, ← c2', p1]
        have hd : b.drop 8 = b.getD 8 0 :: b.drop 9 := by
          rw [List.drop_eq_getElem_cons (by omega)]
          simp [List.getD, List.getElem?_eq_getElem (show 8 < b.length by omega)]
        show b = b.take 8 ++ [b.getD 8 0] ++ b.drop 9
        rw [List.append_assoc]
        show b = b.take 8 ++ (b.getD 8 0 :: b.drop 9)
        rw [← hd, List.take_append_drop]

/-! ### all forms -/
def headB (k : Nat) (n : Nat) : List Int := (k : Int) :: varB 9 (n : Int)
def bodyB (k : Nat) (l : List Int) : List Int := if k = 1 then plainB l else if k = 2 then runsB l else packedB l
def encB (k : Nat) (l : List Int) : List Int := headB k l.length ++ bodyB k l
theorem encB_isB (k : Nat) (l : List Int) (hk : k ≤ 3) (hl : l.length ≤ 65536) : Oct.IsB (encB k l) := by
  refine isB_app ?_ ?_
  · intro x hx
    rcases List.mem_cons.1 hx with rfl | hx
    · omega
    · exact varB_isB l.length (by omega) x hx
  · unfold bodyB
    split
    · exact plainB_isB l
    · split
      · exact runsB_isB l (by omega)
      · exact packedB_isB l
def decF (chk : Bool) (k n : Nat) (b : List Int) : Option (List Int × List Int) :=
  if k = 1 then decP n b else if k = 2 then decR chk n none n b else (decK chk n b).map (fun l => (l, []))
theorem decF_enc (chk : Bool) (k : Nat) (l : List Int) (h : IsI l) (hl : l.length ≤ 65536) : decF chk k l.length (bodyB k l) = some (l, []) := by
  unfold decF bodyB
  by_cases h1 : k = 1
  · rw [if_pos h1, if_pos h1]
    have := decP_enc l [] h
    rwa [List.append_nil] at this
  · rw [if_neg h1, if_neg h1]
    by_cases h2 : k = 2
    · rw [if_pos h2, if_pos h2]
      have := decR_enc chk [] l.length l none (Nat.le_refl _) (by omega) h (by
        cases l with
        | nil => exact .inl rfl
        | cons x t => exact .inr (by simp))
      rwa [List.append_nil] at this
    · rw [if_neg h2, if_neg h2, decK_enc chk l h hl]; rfl
theorem decF_true (chk : Bool) (k n : Nat) (b l r : List Int) (hb : Oct.IsB b) (h : decF chk k n b = some (l, r)) : l.length = n ∧ IsI l ∧ (chk = true → b = bodyB k l ++ r) := by
  unfold decF at h
  unfold bodyB
  by_cases h1 : k = 1
  · rw [if_pos h1] at h
    rw [if_pos h1]
    obtain ⟨a, b, c⟩ := decP_true _ _ _ _ hb h
    exact ⟨b, c, fun _ => a⟩
  · rw [if_neg h1] at h
    rw [if_neg h1]
    by_cases h2 : k = 2
    · rw [if_pos h2] at h
      rw [if_pos h2]
      obtain ⟨a, b, c⟩ := decR_true _ _ _ _ _ _ _ hb h
      exact ⟨a, b, fun hc => (c hc).1⟩
    · rw [if_neg h2] at h
      rw [if_neg h2]
      cases hd : decK chk n b with
      | none => rw [hd] at h; cases h
      | some l' =>
        rw [hd] at h
        simp only [Option.map_some, Option.some.injEq, Prod.mk.injEq] at h
        obtain ⟨rfl, rfl⟩ := h
        obtain ⟨a, b, c⟩ := decK_true _ _ _ _ hb hd
        exact ⟨a, b, fun hc => by rw [List.append_nil]; exact c hc⟩

/-- what Get makes of what a form's reading tells -/
def fin (o : Option (List Int × List Int)) : Int × List Int := match o with
  | some (l, []) => (0, l)
  | _ => (4, [])
/-- Get's answer: the error, the numbers -/
def getI (b : List Int) : Int × List Int := match b with
  | [] => (4, [])
  | k :: t =>
    if k < 1 ∨ 3 < k then (4, [])
    else if (readV 0 0 t).2.1 ≠ 0 ∨ 4096 < (readV 0 0 t).1 then (4, [])
    else fin (decF true k.toNat (readV 0 0 t).1.toNat (t.drop (readV 0 0 t).2.2))
theorem get_enc (k : Nat) (l : List Int) (k1 : 1 ≤ k) (k3 : k ≤ 3) (h : IsI l) (hl : l.length ≤ 4096) : getI (encB k l) = (0, l) := by
  have hr := readV_var l.length (bodyB k l) (by omega)
  unfold encB headB
  simp only [List.cons_append, getI, hr]
  rw [if_neg (by omega), if_neg (by
    rintro (h | h)
    · exact h rfl
    · omega), drop_var, Int.toNat_natCast, Int.toNat_natCast, decF_enc true k l h (by omega)]
  rfl
theorem get_true (b l : List Int) (hb : Oct.IsB b) (h : getI b = (0, l)) : ∃ k, 1 ≤ k ∧ k ≤ 3 ∧ b = encB k l ∧ l.length ≤ 4096 ∧ IsI l := by
  cases b with
  | nil => simp [getI] at h
  | cons k t =>
    simp only [getI] at h
    split at h
    · simp at h
    · rename_i hk
      obtain ⟨q, er, n, hq⟩ : ∃ q er n, readV 0 0 t = (q, er, n) := ⟨_, _, _, rfl⟩
      rw [hq] at h
      simp only at h
      split at h
      · simp at h
      · rename_i hc
        have hbt : Oct.IsB t := fun x hx => hb x (by simp [hx])
        have er0 : er = 0 := Classical.not_not.1 (fun e => hc (.inl e))
        subst er0
        obtain ⟨q0, q1, hbq⟩ := var_readV t hbt q n hq
        obtain ⟨j, rfl⟩ := Int.eq_ofNat_of_zero_le q0
        obtain ⟨m, rfl⟩ := Int.eq_ofNat_of_zero_le (show 0 ≤ k by omega)
        simp only [Int.toNat_natCast] at h
        cases hd : decF true m j (t.drop n) with
        | none => rw [hd] at h; simp [fin] at h
        | some p =>
          obtain ⟨l', r⟩ := p
          rw [hd] at h
          cases r with
          | cons y r => simp [fin] at h
          | nil =>
            simp only [fin, Prod.mk.injEq, true_and] at h
            subst h
            obtain ⟨a, c, e⟩ := decF_true _ _ _ _ _ _ (isB_drop hbt n) hd
            have e := e rfl
            rw [List.append_nil] at e
            refine ⟨m, by omega, by omega, ?_, by omega, c⟩
            unfold encB headB
            rw [a, ← e, List.cons_append, ← hbq]
theorem get_cases (b : List Int) : (∃ l, getI b = (0, l)) ∨ getI b = (4, []) := by
  cases b with
  | nil => exact .inr rfl
  | cons k t =>
    simp only [getI]
    split
    · exact .inr rfl
    · split
      · exact .inr rfl
      · unfold fin
        split
        · exact .inl ⟨_, rfl⟩
        · exact .inr rfl

/-- the document's Get: read, put again, and compared -/
def rgetI (b : List Int) : Int × List Int := match b with
  | [] => (4, [])
  | k :: t =>
    if (readV 0 0 t).2.1 ≠ 0 ∨ 4096 < (readV 0 0 t).1 then (4, [])
    else if k < 1 ∨ 3 < k then (4, [])
    else match decF false k.toNat (readV 0 0 t).1.toNat (t.drop (readV 0 0 t).2.2) with
      | none => (4, [])
      | some (l, _) => if encB k.toNat l = k :: t then (0, l) else (4, [])
theorem rget_eq (b : List Int) (hb : Oct.IsB b) : rgetI b = getI b := by
  rcases get_cases b with ⟨l, h⟩ | h
  · rw [h]
    obtain ⟨k, k1, k3, rfl, hl, hI⟩ := get_true b l hb h
    have hr := readV_var l.length (bodyB k l) (by omega)
    have e : encB k l = (k : Int) :: (varB 9 l.length ++ bodyB k l) := rfl
    rw [e]
    simp only [rgetI, hr]
    rw [if_neg (by
      rintro (h | h)
      · exact h rfl
      · omega), if_neg (by omega), drop_var, Int.toNat_natCast, Int.toNat_natCast, decF_enc false k l hI (by omega)]
    simp only
    rw [← e, if_pos rfl]
  · rw [h]
    cases b with
    | nil => rfl
    | cons k t =>
      simp only [rgetI]
      split
      · rfl
      · rename_i hc
        split
        · rfl
        · rename_i hk
          split
          · rfl
          · rename_i l r hd
            split
            · rename_i he
              exfalso
              have hbt : Oct.IsB t := fun x hx => hb x (by simp [hx])
              obtain ⟨a, c, _⟩ := decF_true _ _ _ _ _ _ (isB_drop hbt _) hd
              have hl : l.length ≤ 4096 := by
                rw [a]
                have : (readV 0 0 t).1 ≤ 4096 := by
                  apply Int.not_lt.1
                  exact fun e => hc (.inr e)
                omega
              have := get_enc k.toNat l (by omega) (by omega) c hl
              rw [he, h] at this
              simp at this
            · rfl
theorem get_len (b : List Int) (hb : Oct.IsB b) : (getI b).2.length ≤ 4096 ∧ IsI (getI b).2 := by
  rcases get_cases b with ⟨l, h⟩ | h
  · obtain ⟨_, _, _, _, a, c⟩ := get_true b l hb h
    rw [h]; exact ⟨a, c⟩
  · rw [h]; exact ⟨by simp, fun x hx => by cases hx⟩

/-! ### the shortest -/
def bestB (l : List Int) : List Int :=
  let m := if (encB 2 l).length < (encB 1 l).length then encB 2 l else encB 1 l
  if (encB 3 l).length < m.length then encB 3 l else m
def tooMany (l : List Int) (e : List Int) : Int × List Int := if 4096 < l.length then (3, []) else (0, e)
theorem best_cases (l : List Int) : (bestB l = encB 1 l ∨ bestB l = encB 2 l ∨ bestB l = encB 3 l) := by
  unfold bestB
  simp only
  split <;> split <;> simp
theorem best_len (l : List Int) : (bestB l).length = min (min (encB 1 l).length (encB 2 l).length) (encB 3 l).length := by
  unfold bestB
  simp only
  split <;> split <;> omega
end Go.Proofs.Yteolpjlpjjjchaa.In
