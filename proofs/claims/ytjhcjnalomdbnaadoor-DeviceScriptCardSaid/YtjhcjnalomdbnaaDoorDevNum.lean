/-
  A device as plain data: lists of blocks, pending writes, a fuse; no program.
-/
import Derived.Test.YtjhcjnalomdbnaaDoorBase
import Derived.Test.YtjhcjnalomdbnaaDoorCrcNum
namespace Go.Proofs.YtjhcjnalomdbnaaDoor.Dv
open Go.RowKit Bs

/-! ### strings as lists of bytes -/
theorem str_append (a b : List Int) : strOfNums a ++ strOfNums b = strOfNums (a ++ b) := by
  apply ByteArray.ext
  simp [strOfNums, ByteArray.data_append]

theorem ofNat_inj {x y : Int} (hx : 0 ≤ x ∧ x < 256) (hy : 0 ≤ y ∧ y < 256) (h : UInt8.ofNat x.toNat = UInt8.ofNat y.toNat) : x = y := by
  have h2 := congrArg UInt8.toNat h
  simp only [UInt8.toNat_ofNat'] at h2
  omega

theorem map_inj (a : List Int) : ∀ b : List Int, IsB a → IsB b → a.map (fun n => UInt8.ofNat n.toNat) = b.map (fun n => UInt8.ofNat n.toNat) → a = b := by
  induction a with
  | nil => intro b _ _ h; cases b with
    | nil => rfl
    | cons y b => simp at h
  | cons x a ih => intro b ha hb h; cases b with
    | nil => simp at h
    | cons y b =>
      simp only [List.map_cons, List.cons.injEq] at h
      rw [ofNat_inj (ha x (by simp)) (hb y (by simp)) h.1, ih b (fun z hz => ha z (by simp [hz])) (fun z hz => hb z (by simp [hz])) h.2]

theorem str_inj {a b : List Int} (ha : IsB a) (hb : IsB b) (h : strOfNums a = strOfNums b) : a = b := by
  apply map_inj a b ha hb
  have := congrArg (fun s : ByteArray => s.data.toList) h
  simpa [strOfNums] using this

/-- are the strings the same? -/
def strB (a b : List Int) : Bool := decide (a = b)
theorem str_eq {a b : List Int} (h : strB a b = true) : a = b := of_decide_eq_true h

/-- Every string is one of bytes. -/
theorem str_of (s : ByteArray) : ∃ l, IsB l ∧ s = strOfNums l := by
  refine ⟨s.data.toList.map fun b => (b.toNat : Int), ?_, ?_⟩
  · intro x hx
    obtain ⟨b, _, rfl⟩ := List.mem_map.1 hx
    have := b.toNat_lt
    omega
  · apply ByteArray.ext
    apply Array.ext'
    simp only [strOfNums, List.map_map]
    have e : ((fun n : Int => UInt8.ofNat n.toNat) ∘ fun b : UInt8 => (b.toNat : Int)) = id := by
      funext b
      simp
    rw [e, List.map_id]

theorem str_data (l : List Int) (h : IsB l) : (strOfNums l).data.toList.map (fun b => Value.int .u8 (b.toNat : Int)) = l.map (Value.int .u8) := by
  rw [strOfNums_data, List.map_map]
  apply List.map_congr_left
  intro x hx
  have := h x hx
  simp only [Function.comp, UInt8.toNat_ofNat']
  congr 1
  omega

theorem str_extract (l : List Int) (a b : Nat) : (strOfNums l).extract a b = strOfNums ((l.drop a).take (b - a)) := by
  apply ByteArray.ext
  apply Array.ext'
  simp [strOfNums, ByteArray.data_extract, List.map_drop, List.map_take]

theorem isB_append {a b : List Int} (ha : IsB a) (hb : IsB b) : IsB (a ++ b) := fun x hx => (List.mem_append.1 hx).elim (ha x) (hb x)
theorem isB_take {l : List Int} (h : IsB l) (n : Nat) : IsB (l.take n) := fun x hx => h x (List.mem_of_mem_take hx)
theorem isB_drop {l : List Int} (h : IsB l) (n : Nat) : IsB (l.drop n) := fun x hx => h x (List.mem_of_mem_drop hx)
theorem isB_rep (n : Nat) (x : Int) (h : 0 ≤ x ∧ x < 256) : IsB (List.replicate n x) := fun y hy => by rw [List.eq_of_mem_replicate hy]; exact h
theorem isB_nil : IsB [] := fun _ h => by cases h

/-! ### blocks side by side -/
def IsD (n : Nat) (d : List (List Int)) : Prop := ∀ l ∈ d, l.length = n ∧ IsB l

theorem flat_len (n : Nat) (d : List (List Int)) (h : IsD n d) : d.flatten.length = n * d.length := by
  induction d with
  | nil => simp
  | cons x d ih =>
    rw [List.flatten_cons, List.length_append, ih (fun l hl => h l (by simp [hl])), (h x (by simp)).1, List.length_cons, Nat.mul_add]
    omega

theorem flat_isB (n : Nat) (d : List (List Int)) (h : IsD n d) : IsB d.flatten := by
  intro x hx
  obtain ⟨l, hl, hx⟩ := List.mem_flatten.1 hx
  exact (h l hl).2 x hx

theorem flat_get (n : Nat) (hn : 0 < n) (d : List (List Int)) (h : IsD n d) : ∀ j, d.flatten[j]? = (d[j / n]?).bind (·[j % n]?) := by
  induction d with
  | nil => intro j; simp
  | cons x d ih =>
    intro j
    have hx := (h x (by simp)).1
    rw [List.flatten_cons]
    by_cases hj : j < n
    · rw [List.getElem?_append_left (by omega), Nat.div_eq_of_lt hj, Nat.mod_eq_of_lt hj]
      rfl
    · rw [List.getElem?_append_right (by omega), hx, ih (fun l hl => h l (by simp [hl]))]
      have e1 : j / n = (j - n) / n + 1 := by
        have := Nat.add_div_right (j - n) hn
        rw [Nat.sub_add_cancel (by omega)] at this
        exact this
      have e2 : j % n = (j - n) % n := by
        have := Nat.add_mod_right (j - n) n
        rw [Nat.sub_add_cancel (by omega)] at this
        exact this
      rw [e1, e2, List.getElem?_cons_succ]

theorem isD_set {n : Nat} {d : List (List Int)} (h : IsD n d) (b : Nat) {l : List Int} (hl : l.length = n) (hb : IsB l) : IsD n (d.set b l) := by
  intro x hx
  rcases List.mem_or_eq_of_mem_set hx with h1 | h1
  · exact h x h1
  · rw [h1]; exact ⟨hl, hb⟩

theorem flat_set (n : Nat) (hn : 0 < n) (d : List (List Int)) (h : IsD n d) (b : Nat) (hb : b < d.length) (l : List Int) (hl : l.length = n) (hB : IsB l) (j : Nat) :
    (d.set b l).flatten[j]? = if j / n = b then l[j % n]? else d.flatten[j]? := by
  rw [flat_get n hn _ (isD_set h b hl hB), flat_get n hn d h]
  by_cases e : j / n = b
  · rw [if_pos e, e, List.getElem?_set_self hb]
    rfl
  · rw [if_neg e, List.getElem?_set_ne (Ne.symm e)]

/-- One block of all. -/
theorem flat_block (n : Nat) (hn : 0 < n) (d : List (List Int)) (h : IsD n d) (b : Nat) (hb : b < d.length) (j : Nat) (hj : j < n) : d.flatten[b * n + j]? = (d[b]'hb)[j]? := by
  rw [flat_get n hn d h]
  have e1 : (b * n + j) / n = b := by rw [Nat.mul_comm, Nat.mul_add_div hn, Nat.div_eq_of_lt hj, Nat.add_zero]
  have e2 : (b * n + j) % n = j := by rw [Nat.mul_comm, Nat.mul_add_mod, Nat.mod_eq_of_lt hj]
  rw [e1, e2, List.getElem?_eq_getElem hb]
  rfl

theorem getD_mem {n : Nat} {d : List (List Int)} (h : IsD n d) {b : Nat} (hb : b < d.length) : (d.getD b []).length = n ∧ IsB (d.getD b []) := by
  have e : d.getD b [] = d[b] := by simp [List.getD, hb]
  rw [e]
  exact h _ (List.getElem_mem hb)

/-! ### the state -/
structure St where
  size : Nat
  blocks : Nat
  dur : List (List Int)
  pend : List (Nat × List Int)
  ops : Nat
  fuse : Int

/-- may a geometry be? -/
def geoB (size blocks : Int) : Bool := decide (128 ≤ size ∧ size ≤ 4096 ∧ size % 64 = 0 ∧ 8 ≤ blocks ∧ blocks ≤ 4096)

structure St.Ok (s : St) : Prop where
  lo : 128 ≤ s.size
  hi : s.size ≤ 4096
  by64 : s.size % 64 = 0
  blo : 8 ≤ s.blocks
  bhi : s.blocks ≤ 4096
  dlen : s.dur.length = s.blocks
  dblk : IsD s.size s.dur
  pblk : ∀ p ∈ s.pend, p.1 < s.blocks ∧ p.2.length = s.size ∧ IsB p.2
  flo : -1 ≤ s.fuse
  fhi : s.fuse ≤ 9223372036854775807
  few : s.pend.length ≤ 1000000
  olo : s.ops ≤ 1000000

def St.fresh (size blocks : Nat) (dur : List (List Int)) : St := ⟨size, blocks, dur, [], 0, -1⟩

def St.burn (s : St) : St := { s with ops := s.ops + 1, fuse := if s.fuse = -1 then -1 else s.fuse - 1 }

def St.hasB (s : St) (block : Int) : Prop := 0 ≤ block ∧ block < s.blocks
instance (s : St) (block : Int) : Decidable (s.hasB block) := inferInstanceAs (Decidable (_ ∧ _))

def St.write (s : St) (block : Int) (l : List Int) : Int × St :=
  if ¬ (s.hasB block ∧ l.length = s.size) then (2, s) else if s.fuse = 0 then (8, s) else (0, { s.burn with pend := s.pend ++ [(block.toNat, l)] })

def St.last (s : St) (b : Nat) : List Int := match s.pend.reverse.find? (fun p => p.1 == b) with
  | some p => p.2
  | none => s.dur.getD b []

def St.read (s : St) (block : Int) : List Int × Int := if s.hasB block then (s.last block.toNat, 0) else ([], 2)

def laid (d : List (List Int)) (p : List (Nat × List Int)) : List (List Int) := p.foldl (fun d p => d.set p.1 p.2) d

def St.flush (s : St) : Int × St := if s.fuse = 0 then (8, s) else (0, { s.burn with dur := laid s.dur s.pend, pend := [] })

def St.setFuse (s : St) (n : Int) : St := { s with fuse := max n (-1) }

theorem isD_laid {n : Nat} (p : List (Nat × List Int)) : ∀ d, IsD n d → (∀ q ∈ p, q.2.length = n ∧ IsB q.2) → IsD n (laid d p) ∧ (laid d p).length = d.length := by
  induction p with
  | nil => intro d h _; exact ⟨h, rfl⟩
  | cons q p ih =>
    intro d h hp
    have h1 := hp q (by simp)
    have := ih (d.set q.1 q.2) (isD_set h q.1 h1.1 h1.2) (fun x hx => hp x (by simp [hx]))
    exact ⟨this.1, by rw [show laid d (q :: p) = laid (d.set q.1 q.2) p from rfl, this.2, List.length_set]⟩

theorem laid_snoc (d : List (List Int)) (p : List (Nat × List Int)) (q : Nat × List Int) : laid d (p ++ [q]) = (laid d p).set q.1 q.2 := by simp [laid]

theorem St.Ok.burn {s : St} (h : s.Ok) (ho : s.ops < 1000000) : s.burn.Ok := by
  refine ⟨h.lo, h.hi, h.by64, h.blo, h.bhi, h.dlen, h.dblk, h.pblk, ?_, ?_, h.few, ?_⟩
  · show (-1 : Int) ≤ if s.fuse = -1 then -1 else s.fuse - 1
    have := h.flo
    split <;> omega
  · show (if s.fuse = -1 then -1 else s.fuse - 1) ≤ (9223372036854775807 : Int)
    have := h.fhi
    split <;> omega
  · show s.ops + 1 ≤ 1000000
    omega

theorem St.Ok.write {s : St} (h : s.Ok) (block : Int) (l : List Int) (hl : IsB l) (hp : s.pend.length < 1000000) (ho : s.ops < 1000000) : (s.write block l).2.Ok := by
  unfold St.write
  split
  · exact h
  · rename_i h1
    have h1 := Decidable.not_not.1 h1
    split
    · exact h
    · rename_i h2
      have hb := h.burn ho
      refine ⟨hb.lo, hb.hi, hb.by64, hb.blo, hb.bhi, hb.dlen, hb.dblk, ?_, hb.flo, hb.fhi, ?_, hb.olo⟩
      · intro p hp
        rcases List.mem_append.1 hp with hp | hp
        · exact h.pblk p hp
        · simp at hp
          subst hp
          have := h1.1
          unfold St.hasB at this
          exact ⟨by show block.toNat < s.blocks; omega, h1.2, hl⟩
      · show (s.pend ++ [(block.toNat, l)]).length ≤ 1000000
        simp
        omega

theorem St.Ok.flush {s : St} (h : s.Ok) (ho : s.ops < 1000000) : s.flush.2.Ok := by
  unfold St.flush
  split
  · exact h
  · rename_i h2
    have hb := h.burn ho
    have hd := isD_laid s.pend s.dur h.dblk (fun q hq => (h.pblk q hq).2)
    exact ⟨hb.lo, hb.hi, hb.by64, hb.blo, hb.bhi, hd.2.trans h.dlen, hd.1, (fun p hp => by cases hp), hb.flo, hb.fhi, by simp, hb.olo⟩

theorem St.Ok.setFuse {s : St} (h : s.Ok) (n : Int) (hn : n ≤ 9223372036854775807) : (s.setFuse n).Ok :=
  ⟨h.lo, h.hi, h.by64, h.blo, h.bhi, h.dlen, h.dblk, h.pblk, by show (-1 : Int) ≤ max n (-1); omega, by show max n (-1) ≤ (9223372036854775807 : Int); omega, h.few, h.olo⟩

theorem St.Ok.last {s : St} (h : s.Ok) {b : Nat} (hb : b < s.blocks) : (s.last b).length = s.size ∧ IsB (s.last b) := by
  unfold St.last
  split
  · rename_i p hp
    have := List.mem_of_find?_eq_some hp
    exact (h.pblk p (by simpa using this)).2
  · exact getD_mem h.dblk (by rw [h.dlen]; exact hb)

/-! ### sectors -/
/-- the new bytes in the sectors of s, the old ones elsewhere -/
def mix (s : Nat) (old new : List Int) : List Int := (List.range old.length).map fun j => if s.testBit (j / 64) then new.getD j 0 else old.getD j 0
theorem mix_len (s : Nat) (old new : List Int) : (mix s old new).length = old.length := by simp [mix]
theorem mix_get (s : Nat) (old new : List Int) (j : Nat) (hj : j < old.length) : (mix s old new).getD j 0 = if s.testBit (j / 64) then new.getD j 0 else old.getD j 0 := by
  simp [mix, List.getD, hj]
theorem mix_isB (s : Nat) {old new : List Int} (ho : IsB old) (hn : IsB new) (hl : new.length = old.length) : IsB (mix s old new) := by
  intro x hx
  obtain ⟨j, hj, rfl⟩ := List.mem_map.1 hx
  have hj : j < old.length := List.mem_range.1 hj
  have e1 : new.getD j 0 = new[j] := by simp [List.getD, show j < new.length by omega]
  have e2 : old.getD j 0 = old[j] := by simp [List.getD, hj]
  rw [e1, e2]
  split
  · exact hn _ (List.getElem_mem _)
  · exact ho _ (List.getElem_mem _)
theorem mix_zero (old new : List Int) : mix 0 old new = old := by
  apply List.ext_getElem
  · simp [mix]
  · intro i h1 h2
    simp [mix, List.getD, h2]

/-- may picks be? -/
def picksOk (s : St) (l : List (Int × Nat)) : Prop :=
  ∀ i, i < l.length → 0 ≤ (l.getD i (0, 0)).1 ∧ (l.getD i (0, 0)).1 < s.pend.length ∧ (l.getD i (0, 0)).2 < 2 ^ (s.size / 64) ∧ ∀ k, k < i → (l.getD k (0, 0)).1 ≠ (l.getD i (0, 0)).1

/-- the first n picks laid over d -/
def put (s : St) (d : List (List Int)) (p : Int × Nat) : List (List Int) :=
  d.set (s.pend.getD p.1.toNat (0, [])).1 (mix p.2 (d.getD (s.pend.getD p.1.toNat (0, [])).1 []) (s.pend.getD p.1.toNat (0, [])).2)
def puts (s : St) (l : List (Int × Nat)) : List (List Int) := l.foldl (put s) s.dur
def St.crash (s : St) (l : List (Int × Nat)) : St := St.fresh s.size s.blocks (puts s l)

theorem put_ok {s : St} (h : s.Ok) {d : List (List Int)} (hd : IsD s.size d) (hl : d.length = s.blocks) (p : Int × Nat) (h0 : 0 ≤ p.1) (h1 : p.1 < s.pend.length) : IsD s.size (put s d p) ∧ (put s d p).length = s.blocks := by
  have hk : p.1.toNat < s.pend.length := by omega
  have e : s.pend.getD p.1.toNat (0, []) = s.pend[p.1.toNat] := by simp [List.getD, hk]
  have hp := h.pblk _ (List.getElem_mem hk)
  unfold put
  rw [e]
  have hg := getD_mem hd (show (s.pend[p.1.toNat]).1 < d.length by rw [hl]; exact hp.1)
  refine ⟨isD_set hd _ (by rw [mix_len]; exact hg.1) (mix_isB _ hg.2 hp.2.2 (by rw [hp.2.1, hg.1])), by rw [List.length_set]; exact hl⟩

theorem puts_ok {s : St} (h : s.Ok) (l : List (Int × Nat)) (hp : ∀ p ∈ l, 0 ≤ p.1 ∧ p.1 < s.pend.length) : IsD s.size (puts s l) ∧ (puts s l).length = s.blocks := by
  unfold puts
  have : ∀ d, IsD s.size d → d.length = s.blocks → IsD s.size (l.foldl (put s) d) ∧ (l.foldl (put s) d).length = s.blocks := by
    induction l with
    | nil => intro d h1 h2; exact ⟨h1, h2⟩
    | cons p l ih =>
      intro d h1 h2
      have := put_ok h h1 h2 p (hp p (by simp)).1 (hp p (by simp)).2
      exact ih (fun q hq => hp q (by simp [hq])) _ this.1 this.2
  exact this s.dur h.dblk h.dlen

theorem fresh_ok {size blocks : Nat} {d : List (List Int)} (h1 : 128 ≤ size) (h2 : size ≤ 4096) (h3 : size % 64 = 0) (h4 : 8 ≤ blocks) (h5 : blocks ≤ 4096) (hd : IsD size d) (hl : d.length = blocks) : (St.fresh size blocks d).Ok :=
  ⟨h1, h2, h3, h4, h5, hl, hd, (fun _ h => by cases h), by show (-1 : Int) ≤ -1; omega, by show (-1 : Int) ≤ 9223372036854775807; omega, by simp [St.fresh], by simp [St.fresh]⟩

theorem puts_take {s : St} (l : List (Int × Nat)) (k : Nat) (hk : k < l.length) : puts s (l.take (k + 1)) = put s (puts s (l.take k)) (l.getD k (0, 0)) := by
  have e : l.getD k (0, 0) = l[k] := by simp [List.getD, hk]
  unfold puts
  rw [e, List.take_succ_eq_append_getElem hk, List.foldl_append]
  rfl

/-! ### rot -/
def rotOk (s : St) (block bit : Int) (mask : Nat) : Prop := s.hasB block ∧ 0 ≤ bit ∧ mask ≠ 0 ∧ ∀ i, mask.testBit i = true → bit + i < 8 * s.size
def St.rot (s : St) (block bit : Int) (mask : Nat) : St := { s with dur := s.dur.set block.toNat (Crc.flip (s.dur.getD block.toNat []) bit 32 mask) }

theorem St.Ok.rot {s : St} (h : s.Ok) {block bit : Int} {mask : Nat} (hr : rotOk s block bit mask) : (s.rot block bit mask).Ok := by
  have hb := hr.1
  unfold St.hasB at hb
  have hg := getD_mem h.dblk (b := block.toNat) (by rw [h.dlen]; omega)
  exact ⟨h.lo, h.hi, h.by64, h.blo, h.bhi, by show (s.dur.set _ _).length = s.blocks; rw [List.length_set]; exact h.dlen,
    isD_set h.dblk _ (by rw [Crc.flip_length]; exact hg.1) (Crc.flip_isB _ _ _ _ hg.2), h.pblk, h.flo, h.fhi, h.few, h.olo⟩
end Go.Proofs.YtjhcjnalomdbnaaDoor.Dv
