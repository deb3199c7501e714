/-
  CountsScript, walked.
-/
import Derived.Test.YtkinmcnmdfpjbaaCnRefM
import Derived.Test.YtkinmcnmdfpjbaaCnScriptK
import Derived.Test.YtkinmcnmdfpjbaaKitPick
import Derived.Test.YtkinmcnmdfpjbaaJSame
import Derived.Deep.DeepCutAuto
import Derived.Deep.Cut
import Derived.Deep.CutRange
namespace Go.Proofs.Ytkinmcnmdfpjbaa.Cn
open Go.RowKit Bs Dv Gr
open Su (GeoOk pagesF)

theorem load_back {size : Int} {n : Nat} {N : List Int} (ho : CnOk size n N) (ps : List (List Int)) (hp : pagesL (eachC size) n N = ps) (a : Option Addr) (m pc : Nat) (w : World) (hs : Ss.Seg w a m pc ps) (hb : Ss.IsS ps) :
    Calls Try.prog 17 #[.agg #[.int .i64 size, .int .i64 (n : Int)], .slice a m pc] w fun e w' => ∃ g h cap, e = .returned (.tuple #[.pointer (some ⟨g, 0, none⟩), .int .i64 0]) ∧ CC w' g h cap size N ∧ w.grownBy w' none := by
  subst hp
  refine (load_any size n a m pc _ w hs hb).mono ?_
  rintro e w' ⟨hg, ⟨hno, -⟩ | ⟨n', hn, hok, ⟨h4, -⟩ | ⟨h0, g, h', cap, rfl, hcc, hl1, hl2⟩⟩⟩
  · exact absurd ho.geo hno
  · obtain rfl : n = n' := by omega
    rw [ho.load] at h4; cases h4
  · obtain rfl : n = n' := by omega
    rw [ho.load] at hcc
    exact ⟨g, h', cap, rfl, hcc, hg⟩
theorem mem_flat {p : List Int} : ∀ {ps : List (List Int)}, p ∈ ps → p.length ≤ ps.flatten.length
  | q :: ps, h => by
    rw [List.flatten_cons, List.length_append]
    rcases List.mem_cons.1 h with rfl | h
    · omega
    · have := mem_flat h
      omega
theorem pages_isS {size : Int} {n : Nat} {N : List Int} (ho : CnOk size n N) : Ss.IsS (pagesL (eachC size) n N) := by
  have hb : ∀ l : List Int, IsB (bytesC l) := by
    intro l
    induction l with
    | nil => intro x hx; cases hx
    | cons y l ih =>
      intro x hx
      rcases List.mem_append.1 hx with hx | hx
      · exact Oct.putB_isB 2 y x hx
      · exact ih x hx
  have hp : ∀ (f : Nat) (l : List Int), ∀ p ∈ pagesL (eachC size) f l, IsB p := by
    intro f
    induction f with
    | zero => intro l p hp; cases hp
    | succ f ih =>
      intro l p hp
      rw [pagesL] at hp
      by_cases h0 : l.length = 0
      · rw [if_pos h0] at hp; cases hp
      · rw [if_neg h0] at hp
        rcases List.mem_cons.1 hp with rfl | hp
        · exact hb _
        · exact ih _ p hp
  intro p h
  refine ⟨hp n N p h, ?_⟩
  have h1 := mem_flat h
  have h2 := (each_pos ho.geo).1
  rw [pages_flat (eachC size) (by omega) n N (Nat.le_of_eq ho.len), bytes_len, ho.len] at h1
  have h3 := ho.geo
  unfold GeoOk at h3
  omega
section
variable {w0 w : World} {g h cap o p q : Nat} {size : Int} {n : Nat} {N : List Int}
theorem same_ints {a b c : Nat} {W : World} (j : JR W a N) (r : RC W o b c size N) (qm : c ≤ maxLen) (hn : N.length = n) (hle : n ≤ 4096) :
    Calls Try.prog 27 #[.slice (some ⟨a, 0, none⟩) n n, .slice (some ⟨b, 0, none⟩) n c] W fun e w' => e = .returned (.bool true) ∧ W.grownBy w' none := by
  have h0 := j.seg (by omega)
  have h1 := rcj_seg r qm
  rw [hn] at h0 h1
  refine (Js.same_any _ _ n n n c N N W h0 h1).mono ?_
  rintro e w' ⟨he, m, rfl⟩
  exact ⟨by rw [he]; unfold Js.sameB; simp, ⟨rfl, rfl, rfl, Nat.le_refl _, fun _ _ _ => rfl⟩⟩
theorem same_strs {ps : List (List Int)} (hb : Ss.IsS ps) {a b : Option Addr} {P c d : Nat} {W : World} (j : Ss.Seg W a P c ps) (k : Ss.Seg W b P d ps) :
    Calls Try.prog 31 #[.slice a P c, .slice b P d] W fun e w' => e = .returned (.bool true) ∧ W.grownBy w' none := by
  refine (Ss.same_any _ _ P P c d ps ps W j k hb hb).mono ?_
  rintro e w' ⟨he, m, rfl⟩
  exact ⟨by rw [he]; unfold Ss.sameB; simp, ⟨rfl, rfl, rfl, Nat.le_refl _, fun _ _ _ => rfl⟩⟩
theorem seg_oldS {a : Nat} {m c : Nat} {l : List (List Int)} {W W' : World} (h : Ss.Seg W (some ⟨a, 0, none⟩) m c l) (k : W.grownBy W' none) : Ss.Seg W' (some ⟨a, 0, none⟩) m c l :=
  ⟨h.len, h.le, h.cap, h.nil_, fun ad had j u hu => (grown_turn k).cell (h.at_ ad had j u hu) id⟩
theorem Two.pages {M : List Int} (t : Two w0 w g h cap o p q size n N M) (ps : List (List Int)) (hp : pagesL (eachC size) n N = ps) (P : Nat) (hP : ps.length = P) :
    Calls Try.prog 16 #[.pointer (some ⟨g, 0, none⟩)] w fun e w' => w.grownBy w' none ∧ ∃ a c, e = .returned (.slice (some ⟨a, 0, none⟩) P c) ∧ Ss.Seg w' (some ⟨a, 0, none⟩) P c ps := by
  subst hp; subst hP
  exact (pages_any g h cap size n N w t.c.cc t.c.ok).mono fun _ _ ⟨h1, a, c, h2, h3, _⟩ => ⟨h1, a, c, h2, h3⟩
theorem Two.rpages {M : List Int} (t : Two w0 w g h cap o p q size n N M) (ps : List (List Int)) (hp : pagesL (eachC size) n M = ps) (P : Nat) (hP : ps.length = P) :
    Calls Try.prog 32 #[.pointer (some ⟨o, 0, none⟩)] w fun e w' => w.grownBy w' none ∧ ∃ a c, e = .returned (.slice (some ⟨a, 0, none⟩) P c) ∧ Ss.Seg w' (some ⟨a, 0, none⟩) P c ps := by
  subst hp; subst hP
  exact (rpagesC_any o p q size n M w t.r t.ok).mono fun _ _ ⟨h1, a, c, h2, h3, _⟩ => ⟨h1, a, c, h2, h3⟩
theorem Two.cell2 {M : List Int} (t : Two w0 w g h cap o p q size n N M) : w.cell? ⟨o, 2, none⟩ = some (.slice (some ⟨p, 0, none⟩) n q) := by rw [cell_of_row _ _ _ _ _ _ t.r.box, ← t.ok.len]; rfl
end

set_option maxRecDepth 100000 in
set_option maxHeartbeats 16000000 in
theorem script_any (size blocks : Int) (a1 : Option Addr) (n c : Nat) (l : List CAct) (w : World) (hs : ActSeg w a1 n c l) (hb : ∀ x ∈ l, x.Ok) :
    Calls Try.prog 4 #[.agg #[.int .i64 size, .int .i64 blocks], .slice a1 n c] w fun e w' => e = .returned (.bool true) ∧ Below w.heap.size w w' := by
  have B0 := heap_alloc_new w (.cells #[.int .i64 size, .int .i64 blocks] 28)
  have G0 := grown_alloc w (.cells #[.int .i64 size, .int .i64 blocks] 28)
  obtain ⟨W0, hW0⟩ : ∃ X, w.alloc (.cells #[.int .i64 size, .int .i64 blocks] 28) = X := ⟨_, rfl⟩
  rw [hW0] at B0 G0
  have HW0 := Lib.hid hW0
  have HLV := Lib.hid (lives_any W0)
  have HLG := Lib.hid (fun W => lightgeo_any size blocks W)
  have HA := Lib.hid (hs.old G0)
  have HOK := Lib.hid (fun k (hk : k < n) => hb (l.getD k default) (by
    have hk' : k < l.length := by rw [hs.len]; exact hk
    simp [List.getD, hk']))
  have HEND : Hid (∀ W, W0.grownBy W none → Below w.heap.size w W) := Lib.hid (fun W k => grown_below (grown_then G0 k))
  have HCL : Hid (∀ W, W0.grownBy W none → W.cell? ⟨w.heap.size, 0, none⟩ = some (.int .i64 size) ∧ W.cell? ⟨w.heap.size, 1, none⟩ = some (.int .i64 blocks)) := Lib.hid (fun W k => by
    constructor <;> rw [cell_of_row _ _ _ _ _ _ (block_old B0 k)] <;> rfl)
  have hncap := Nat.le_trans hs.le hs.cap
  unfold maxLen at hncap
  obtain ⟨lb, hlb⟩ : ∃ b, LightS size blocks = b := ⟨_, rfl⟩
  rw [hlb] at HLG
  clear B0 G0 hW0 hs hb hlb
  go_enter Try.func4, Try.ntmps4
  go_upto_region 1 with (fail)
  rw [HW0.out]
  go_wp2_with fail
  refine HLV.out.mono ?_
  rintro e w1 ⟨rfl, hg⟩
  have HG1 := Lib.hid hg
  obtain ⟨c0, c1⟩ := HCL.out w1 hg
  clear hg HLV
  dsimp only
  go_wp2_with fail
  refine (HLG.out _).mono ?_
  rintro e w2 ⟨rfl, hg⟩
  have HG2 := Lib.hid (grown_then HG1.out hg)
  clear hg c0 c1 HG1 HLG
  dsimp only
  cases lb
  case false =>
    have HE := Lib.hid (HEND.out _ HG2.out)
    go_wp2
    go_ret
    exact ⟨rfl, HE.out⟩
  by_cases h80 : 80 < n
  · have q80 : decide ((80 : Int) < (n : Int)) = true := decide_eq_true (by omega)
    have HE := Lib.hid (HEND.out _ HG2.out)
    clear h80
    go_wp2
    go_ret
    exact ⟨rfl, HE.out⟩
  have q80 : decide ((80 : Int) < (n : Int)) = false := decide_eq_false (by omega)
  clear h80
  by_cases hok : GeoOk size blocks
  case neg =>
    have HNO := Lib.hid (fun W => new_no size blocks W hok)
    have HRN := Lib.hid (fun W => rnew_any size blocks W)
    have HNG := Lib.hid hok
    obtain ⟨c0, c1⟩ := HCL.out w2 HG2.out
    clear hok
    go_wp2_with fail
    refine (HNO.out _).mono ?_
    rintro e w3 ⟨rfl, hg⟩
    have HG3 := Lib.hid (grown_then HG2.out hg)
    clear c0 c1 hg
    obtain ⟨c0, c1⟩ := HCL.out w3 HG3.out
    dsimp only
    go_wp2_with fail
    refine (HRN.out _).mono ?_
    rintro e w4 ⟨hg, ⟨-, rfl⟩ | ⟨m, hm, he, -⟩⟩
    case inr => exact absurd (he ▸ hm) HNG.out
    have HE := Lib.hid (HEND.out _ (grown_then HG3.out hg))
    clear c0 c1 hg q80
    dsimp only
    by_cases h0 : n = 0
    · subst h0
      go_wp2
      refine wp_loop_rounds 1 ?_
      rw [rounds_succ]
      go_wp2
      go_ret
      exact ⟨rfl, HE.out⟩
    · have h0' : 0 < n := by omega
      go_wp2
      refine wp_loop_rounds 1 ?_
      rw [rounds_succ]
      go_wp2
      go_ret
      exact ⟨rfl, HE.out⟩
  obtain ⟨m, rfl⟩ : ∃ m : Nat, blocks = m := Int.eq_ofNat_of_zero_le (by unfold GeoOk at hok; omega)
  have hm8 : 8 ≤ m ∧ m ≤ 4096 := by unfold GeoOk at hok; omega
  have HNY := Lib.hid (new_yes size m W0 w2 HG2.out hok)
  have HRN := Lib.hid (fun W => rnew_any size m W)
  have HGO := Lib.hid hok
  obtain ⟨c0, c1⟩ := HCL.out w2 HG2.out
  clear hok
  go_wp2_with fail
  refine HNY.out.mono ?_
  rintro e w3 ⟨g, h, cap, rfl, hcn, hg, hl1, hl2⟩
  have HN3 := Lib.hid hcn
  clear c0 c1 hg hl1 hl2 hcn HNY
  obtain ⟨c0, c1⟩ := HCL.out w3 HN3.out.gr
  dsimp only
  go_wp2_with fail
  refine (HRN.out _).mono ?_
  rintro e w4 ⟨hg, ⟨hno, -⟩ | ⟨m', hm, he, o, p, q, rfl, hrc, hl1, hl2, hqm⟩⟩
  case inl => exact absurd HGO.out hno
  obtain rfl : m = m' := by omega
  have HT4 : Hid (Two W0 w4 g h cap o p q size m (newC m) (newC m)) := Lib.hid (by
    have b1 := HN3.out.cc.lt
    have b2 := HN3.out.cc.glt
    have b3 := HN3.out.gr.size
    exact ⟨HN3.out.old hg, hrc, new_ok hm, hqm, by omega, by omega, by omega, by omega⟩)
  clear c0 c1 hg hm he hrc hl1 hl2 hqm HN3 HRN HGO q80 HG2
  dsimp only
  go_wp2
  go_loopw [9, 10, 11] (fun hv kv iv wr => ∃ (k : Nat) (N K : List Int) (x y : Option Addr), k ≤ n ∧ hv = .pointer x ∧ kv = .pointer y ∧ iv = .int .i64 (k : Int) ∧ Hid (Two W0 wr g h cap o p q size m N N) ∧ Hid (Pair W0 wr size m h p x y K)) (fun _ _ iv _ => n - (intOf iv).toNat)
  case atStart => exact ⟨0, _, [], none, none, Nat.zero_le _, rfl, rfl, rfl, HT4, Lib.hid .nil⟩
  case round =>
    clear HT4
    obtain ⟨k, N, K, x, y, hk, rfl, rfl, rfl, HT, HP⟩ := hrel
    by_cases hkn : k < n
    · obtain ⟨B, O, rfl, hat⟩ := HA.out.form (by omega)
      obtain ⟨a0, a1, a2⟩ := hat k hkn
      have hxo := HOK.out k hkn
      clear hat
      obtain ⟨⟨kd, num, hl⟩, hx⟩ : ∃ x, x = l.getD k default := ⟨_, rfl⟩
      rw [← hx] at a0 a1 a2 hxo
      obtain ⟨hkd, hnum⟩ := hxo
      have hkd : -9223372036854775808 ≤ kd ∧ kd ≤ 9223372036854775807 := hkd
      have hnum : num < 4294967296 := hnum
      clear hx
      have p0 : (0 : Int) ≤ (k : Int) := by omega
      have p1 : (k : Int) < (n : Int) := by omega
      have b0 : wr.cell? ⟨B, O + k * 3, none⟩ = some (.int .i64 kd) := (grown_turn HT.out.c.gr).cell a0 id
      have b1 : wr.cell? ⟨B, O + k * 3 + 1, none⟩ = some (.int .u32 (num : Int)) := (grown_turn HT.out.c.gr).cell a1 id
      have b2 : wr.cell? ⟨B, O + k * 3 + 2, none⟩ = some (.bool hl) := (grown_turn HT.out.c.gr).cell a2 id
      clear a0 a1 a2
      have HPK := Lib.hid (fun W => pick_any kd 5 W (by omega) (by omega))
      have hpr := pick_range kd 5 (by omega)
      obtain ⟨qk, hq⟩ : ∃ qk : Nat, pick kd 5 = (qk : Int) := ⟨(pick kd 5).toNat, by omega⟩
      rw [hq] at HPK hpr
      have hq5 : qk < 5 := by omega
      have HAN : Hid ((wr.alloc (.cells #[.int .i64 kd, .int .u32 (num : Int), .bool hl] 48)).cell? ⟨wr.heap.size, 0, none⟩ = some (.int .i64 kd) ∧ (wr.alloc (.cells #[.int .i64 kd, .int .u32 (num : Int), .bool hl] 48)).cell? ⟨wr.heap.size, 1, none⟩ = some (.int .u32 (num : Int)) ∧ (wr.alloc (.cells #[.int .i64 kd, .int .u32 (num : Int), .bool hl] 48)).cell? ⟨wr.heap.size, 2, none⟩ = some (.bool hl)) := Lib.hid (by
        refine ⟨?_, ?_, ?_⟩ <;> rw [cell_of_row _ _ _ _ _ _ (heap_alloc_new wr _)] <;> rfl)
      have HT6 := Lib.hid (HT.out.go (grown_alloc wr (.cells #[.int .i64 kd, .int .u32 (num : Int), .bool hl] 48)))
      have HP6 := Lib.hid (HP.out.go (grown_alloc wr (.cells #[.int .i64 kd, .int .u32 (num : Int), .bool hl] 48)))
      have HAF : Hid (wr.heap.size ≠ h ∧ wr.heap.size ≠ p) := Lib.hid ⟨by have := HT.out.c.cc.lt; omega, by have := HT.out.plt; omega⟩
      clear hq hpr
      go_upto_region 16 with fail
      clear b0 b1 b2 HT HP
      generalize wr.alloc (.cells #[.int .i64 kd, .int .u32 (num : Int), .bool hl] 48) = w6 at *
      obtain ⟨ab, hab⟩ : ∃ ab, ab = wr.heap.size := ⟨_, rfl⟩
      rw [← hab] at HAN HAF ⊢
      obtain ⟨a0, a1, a2⟩ := HAN.out
      clear hab
      go_wp2_with fail
      refine (HPK.out _).mono ?_
      rintro e w7 ⟨rfl, rfl⟩
      dsimp only
      go_step
      go_step
      go_step
      go_step
      go_cut [9, 10, 13] (fun hv kv sv wx => ∃ (N K : List Int) (x y : Option Addr), hv = .pointer x ∧ kv = .pointer y ∧ sv = .bool true ∧ Hid (Two W0 wx g h cap o p q size m N N) ∧ Hid (Pair W0 wx size m h p x y K) ∧ Hid (wx.cell? ⟨ab, 1, none⟩ = some (.int .u32 (num : Int))))
      case first =>
        have HA1 := Lib.hid a1
        rcases (by omega : (qk = 0 ∨ qk = 1) ∨ qk = 2 ∨ qk = 3 ∨ qk = 4) with hq | hq | hq | hq
        · as_aux_lemma =>
          rcases hl with _ | _
          · have HQ : Hid (Pair W0 w6 size m h p none none []) := Lib.hid .nil
            rcases hq with rfl | rfl
            all_goals
              go_wp2_with fail
              refine (HT6.out.take HQ.out).mono ?_
              rintro e w8 ⟨r, z, N8, rfl, hA, ht, hu⟩
              have HA8 := Lib.hid hA
              have HT8 := Lib.hid ht
              have HQ8 := Lib.hid (HQ.out.putc hu HT6.out.c.new)
              have HP8 := Lib.hid (HP6.out.putc hu HT6.out.c.new)
              have n1 := hu.cell a1 (fun e => HAF.out.1 e)
              clear hA ht hu a0 a1 a2
              dsimp only
              go_wp2_with fail
              refine (HT8.out.rtake HQ8.out).mono ?_
              rintro e w9 ⟨r2, z2, N9, rfl, hA2, ht2, hu2⟩
              obtain ⟨rfl, rfl, rfl⟩ := HA8.out.one hA2
              have HT9 := Lib.hid ht2
              have HP9 := Lib.hid (HP8.out.putr hu2 HT8.out.new)
              have HC9 : Hid (w9.cell? ⟨ab, 1, none⟩ = some (.int .u32 (num : Int))) := Lib.hid (hu2.cell n1 (fun e => HAF.out.2 e))
              clear hA2 ht2 hu2 n1
              dsimp only
              go_wp2
              go_meet
              case rel => exact ⟨_, K, x, y, rfl, rfl, rfl, HT9, HP9, HC9⟩
          · have HQ := Lib.hid HP6.out
            rcases hq with rfl | rfl
            all_goals
              go_wp2_with fail
              refine (HT6.out.take HQ.out).mono ?_
              rintro e w8 ⟨r, z, N8, rfl, hA, ht, hu⟩
              have HA8 := Lib.hid hA
              have HT8 := Lib.hid ht
              have HQ8 := Lib.hid (HQ.out.putc hu HT6.out.c.new)
              have HP8 := Lib.hid (HP6.out.putc hu HT6.out.c.new)
              have n1 := hu.cell a1 (fun e => HAF.out.1 e)
              clear hA ht hu a0 a1 a2
              dsimp only
              go_wp2_with fail
              refine (HT8.out.rtake HQ8.out).mono ?_
              rintro e w9 ⟨r2, z2, N9, rfl, hA2, ht2, hu2⟩
              obtain ⟨rfl, rfl, rfl⟩ := HA8.out.one hA2
              have HT9 := Lib.hid ht2
              have HP9 := Lib.hid (HP8.out.putr hu2 HT8.out.new)
              have HC9 : Hid (w9.cell? ⟨ab, 1, none⟩ = some (.int .u32 (num : Int))) := Lib.hid (hu2.cell n1 (fun e => HAF.out.2 e))
              clear hA2 ht2 hu2 n1
              dsimp only
              go_wp2
              go_meet
              case rel => exact ⟨_, K, x, y, rfl, rfl, rfl, HT9, HP9, HC9⟩
        · as_aux_lemma =>
          subst hq
          have HT6d := Lib.hid (HT6.out.go (grown_drew w6))
          have HP6d := Lib.hid (HP6.out.go (grown_drew w6))
          clear HT6 HP6 a0 a2
          go_wp2_with fail
          go_region_held3 (fun w' => w'.cell? ⟨ab, 0 + 1, none⟩ = some (.int .u32 (num : Int))) (go_keep)
            (first
              | (go_at_call 14
                 (with_reducible refine (Two.add (t := HT6d.out) num hnum).mono ?_)
                 rintro e w8 ⟨rfl, ht, hu⟩
                 have HT8 := Lib.hid ht
                 have HP8 := Lib.hid (HP6d.out.putc hu HT6d.out.c.new)
                 have n1 := hu.cell (p := ⟨ab, 0 + 1, none⟩) (by exact a1) (fun e => HAF.out.1 e)
                 clear ht hu
                 dsimp only)
              | (go_at_call 24
                 (with_reducible refine (Two.radd (t := HT8.out) num hnum).mono ?_)
                 rintro e w9 ⟨rfl, ht, hu⟩
                 have HT9 := Lib.hid ht
                 have HP9 := Lib.hid (HP8.out.putr hu HT8.out.new)
                 have m1 := hu.cell n1 (fun e => HAF.out.2 e)
                 have HC9 : Hid (w9.cell? ⟨ab, 1, none⟩ = some (.int .u32 (num : Int))) := Lib.hid m1
                 clear ht hu
                 dsimp only)
              | fail)
          clear n1 m1 a1
          go_wp2
          go_meet
          case rel => exact ⟨_, K, x, y, rfl, rfl, rfl, HT9, HP9, HC9⟩
        · as_aux_lemma =>
          subst hq
          clear a0 a2
          go_wp2_with fail
          refine (HT6.out.sub num hnum).mono ?_
          rintro e w8 ⟨rfl, ht, hu⟩
          have HT8 := Lib.hid ht
          have HP8 := Lib.hid (HP6.out.putc hu HT6.out.c.new)
          have n1 := hu.cell a1 (fun e => HAF.out.1 e)
          clear ht hu HT6 HP6 a1
          dsimp only
          go_wp2_with fail
          refine (HT8.out.rsub num hnum).mono ?_
          rintro e w9 ⟨rfl, ht, hu⟩
          have HT9 := Lib.hid ht
          have HP9 := Lib.hid (HP8.out.putr hu HT8.out.new)
          have HC9 : Hid (w9.cell? ⟨ab, 1, none⟩ = some (.int .u32 (num : Int))) := Lib.hid (hu.cell n1 (fun e => HAF.out.2 e))
          clear ht hu n1 HT8 HP8
          dsimp only
          go_wp2
          go_meet
          case rel => exact ⟨_, K, x, y, rfl, rfl, rfl, HT9, HP9, HC9⟩
        · as_aux_lemma =>
          subst hq
          clear a0 a2
          go_wp2_with fail
          refine HT6.out.c.clone.mono ?_
          rintro e w8 ⟨g2, h2, cap2, rfl, hd, hg, hl1, hl2⟩
          have HH8 := Lib.hid (⟨hd, hg, hl1, hl2⟩ : CN W0 w8 g2 h2 cap2 size m N ∧ w6.grownBy w8 none ∧ w6.heap.size ≤ g2 ∧ w6.heap.size ≤ h2)
          have HT8 := Lib.hid (HT6.out.go hg)
          clear hd hg hl1 hl2
          dsimp only
          go_wp2_with fail
          refine (rclone_any o p q size N w8 HT8.out.r HT8.out.qm).mono ?_
          rintro e w9 ⟨o2, p2, q2, rfl, hr, hqm, hg, hl1, hl2⟩
          obtain ⟨hpp, htt⟩ := HT6.out.cloned HH8.out.1 HH8.out.2.1 HH8.out.2.2.1 HH8.out.2.2.2 hr hqm hg hl1 hl2
          have HPP := Lib.hid hpp
          have HTT := Lib.hid htt
          have HT9 := Lib.hid (HT8.out.go hg)
          have k1 := (grown_turn (grown_then HH8.out.2.1 hg)).cell a1 id
          have HC9 := Lib.hid k1
          have k2 := htt.cell2
          have HD9 := Lib.hid (grown_drew w9)
          have hm := hm8.2
          clear hpp htt hr hqm hg hl1 hl2 a1 HH8 HT8 HT6 HP6
          dsimp only
          go_wp2
          go_region_held3 (fun w' => w'.cell? ⟨o2, 2, none⟩ = some (.slice (some ⟨p2, 0, none⟩) m q2)) (go_keep)
            (first
              | (go_at_call 28
                 (with_reducible refine (CN.all (c := (HTT.out.go HD9.out).c)).mono ?_)
                 rintro e w10 ⟨ba, rfl, hj, -, hg⟩
                 have HG10 := Lib.hid (grown_then HD9.out hg)
                 have HJ10 := Lib.hid hj
                 have n2 := (grown_turn HG10.out).cell k2 id
                 clear hj hg)
              | (go_at_call 27
                 (with_reducible refine (same_ints HJ10.out (HTT.out.go HG10.out).r HTT.out.qm HTT.out.ok.len hm).mono ?_)
                 rintro e w11 ⟨rfl, hg⟩
                 have HG11 := Lib.hid (grown_then HG10.out hg)
                 have m2 := (grown_turn HG11.out).cell k2 id
                 clear hg)
              | fail)
          have HT11 := Lib.hid (HT9.out.go HG11.out)
          have HP11 := Lib.hid (HPP.out.go HG11.out)
          have HC11 := Lib.hid ((grown_turn HG11.out).cell HC9.out id)
          clear k1 k2 n2 m2
          go_wp2
          go_meet
          case rel => exact ⟨N, N, _, _, rfl, rfl, rfl, HT11, HP11, HC11⟩
      case rest =>
       as_aux_lemma =>
        clear a0 a1 a2 HAN HAF HT6 HP6 HPK
        obtain ⟨N, K, x, y, rfl, rfl, rfl, HT, HP, HC⟩ := hcut
        obtain ⟨z, hz⟩ : ∃ z, N.getD num 0 = z := ⟨_, rfl⟩
        obtain ⟨u, hu⟩ : ∃ u, usedC N = u := ⟨_, rfl⟩
        obtain ⟨ps, hps⟩ : ∃ ps, pagesL (eachC size) m N = ps := ⟨_, rfl⟩
        obtain ⟨P, hP⟩ : ∃ P, ps.length = P := ⟨_, rfl⟩
        have HIS : Hid (Ss.IsS ps) := Lib.hid (by rw [← hps]; exact pages_isS HT.out.ok)
        have HGT := Lib.hid (fun W (k : wc.grownBy W none) => (HT.out.go k).c.get num hnum)
        have HRG := Lib.hid (fun W (k : wc.grownBy W none) => (HT.out.go k).rget num hnum)
        have HUS := Lib.hid (fun W (k : wc.grownBy W none) => usedc_any g h cap size N W (HT.out.go k).c.cc HT.out.c.ok.cnt)
        have HRU := Lib.hid (fun W (k : wc.grownBy W none) => (HT.out.go k).rused)
        have HAL := Lib.hid (fun W (k : wc.grownBy W none) => (HT.out.go k).c.all)
        have HPA := Lib.hid (fun W (k : wc.grownBy W none) => (HT.out.go k).pages ps hps P hP)
        have HRP := Lib.hid (fun W (k : wc.grownBy W none) => (HT.out.go k).rpages ps hps P hP)
        have HSI := Lib.hid (fun W a (k : wc.grownBy W none) (j : JR W a N) => same_ints j (HT.out.go k).r HT.out.qm HT.out.ok.len hm8.2)
        have HSS := Lib.hid (fun W a b c d (k : Ss.Seg W (some ⟨a, 0, none⟩) P c ps) (j : Ss.Seg W (some ⟨b, 0, none⟩) P d ps) => same_strs HIS.out k j)
        rw [hz] at HGT HRG
        rw [hu] at HUS HRU
        have c1 := HC.out
        have c2 := HT.out.cell2
        have HD := Lib.hid (grown_drew wc)
        clear hz hu hps hP
        go_wp2_with fail
        go_region_held3 (fun w' => w'.cell? ⟨ab, 0 + 1, none⟩ = some (.int .u32 (num : Int)) ∧ w'.cell? ⟨o, 2, none⟩ = some (.slice (some ⟨p, 0, none⟩) m q)) (go_keep)
          (first
            | (go_at_call 18
               (with_reducible refine (HGT.out _ HD.out).mono ?_)
               rintro e w5 ⟨rfl, rfl⟩)
            | (go_at_call 29
               (with_reducible refine (HRG.out _ HD.out).mono ?_)
               rintro e w6 ⟨rfl, rfl⟩)
            | (go_at_call 19
               (with_reducible refine (HUS.out _ HD.out).mono ?_)
               rintro e w7 ⟨rfl, hg⟩
               have HG7 := Lib.hid (grown_then HD.out hg)
               have k1 := (grown_turn HG7.out).cell c1 id
               have k2 := (grown_turn HG7.out).cell c2 id
               clear hg)
            | (go_at_call 30
               (with_reducible refine (HRU.out _ HG7.out).mono ?_)
               rintro e w8 ⟨rfl, rfl⟩)
            | (go_at_call 28
               (with_reducible refine (HAL.out _ HG7.out).mono ?_)
               rintro e w9 ⟨ba, rfl, hj, -, hg⟩
               have HG9 := Lib.hid (grown_then HG7.out hg)
               have HJ9 := Lib.hid hj
               have l1 := (grown_turn HG9.out).cell c1 id
               have l2 := (grown_turn HG9.out).cell c2 id
               clear hj hg)
            | (go_at_call 27
               (with_reducible refine (HSI.out _ _ HG9.out HJ9.out).mono ?_)
               rintro e w10 ⟨rfl, hg⟩
               have HG10 := Lib.hid (grown_then HG9.out hg)
               have i1 := (grown_turn HG10.out).cell c1 id
               have i2 := (grown_turn HG10.out).cell c2 id
               clear hg)
            | (go_at_call 16
               (with_reducible refine (HPA.out _ HG10.out).mono ?_)
               rintro e w11 ⟨hg, bp, cp, rfl, hj⟩
               have HG11 := Lib.hid (grown_then HG10.out hg)
               have HJ11 := Lib.hid hj
               have j1 := (grown_turn HG11.out).cell c1 id
               have j2 := (grown_turn HG11.out).cell c2 id
               clear hj hg)
            | (go_at_call 32
               (with_reducible refine (HRP.out _ HG11.out).mono ?_)
               rintro e w12 ⟨hg, bq, cq, rfl, hj⟩
               have HG12 := Lib.hid (grown_then HG11.out hg)
               have HK12 := Lib.hid (seg_oldS HJ11.out hg)
               have HJ12 := Lib.hid hj
               have m1 := (grown_turn HG12.out).cell c1 id
               have m2 := (grown_turn HG12.out).cell c2 id
               clear hj hg)
            | (go_at_call 31
               (with_reducible refine (HSS.out _ _ _ _ _ HK12.out HJ12.out).mono ?_)
               rintro e w13 ⟨rfl, hg⟩
               have HG13 := Lib.hid (grown_then HG12.out hg)
               have n1 := (grown_turn HG13.out).cell c1 id
               have n2 := (grown_turn HG13.out).cell c2 id
               clear hg)
            | fail)
        have HT13 := Lib.hid (HT.out.go HG13.out)
        have HP13 := Lib.hid (HP.out.go HG13.out)
        clear c1 c2 k1 k2 l1 l2 i1 i2 j1 j2 m1 m2 n1 n2
        go_wp2
        go_roundw
        case rel => exact ⟨k + 1, N, K, x, y, by omega, rfl, rfl, by go_num, HT13, HP13⟩
        case measure => simp [intOf]; omega
    · as_aux_lemma =>
      obtain rfl : n = k := by omega
      obtain ⟨ps, hps⟩ : ∃ ps, pagesL (eachC size) m N = ps := ⟨_, rfl⟩
      obtain ⟨P, hP⟩ : ∃ P, ps.length = P := ⟨_, rfl⟩
      have HIS : Hid (Ss.IsS ps) := Lib.hid (by rw [← hps]; exact pages_isS HT.out.ok)
      have HRP := Lib.hid (fun W (k : wr.grownBy W none) => (HT.out.go k).rpages ps hps P hP)
      have HLD := Lib.hid (fun W a c (j : Ss.Seg W (some ⟨a, 0, none⟩) P c ps) => load_back HT.out.ok ps hps _ P c W j HIS.out)
      have HAL := Lib.hid (fun W g2 h2 c2 (k : CC W g2 h2 c2 size N) => (by
        have := all_any g2 h2 c2 size N W k HT.out.ok.cnt
        unfold AllX at this
        rw [HT.out.ok.len] at this
        exact this : Calls Try.prog 28 #[.pointer (some ⟨g2, 0, none⟩)] W fun e w' => W.grownBy w' none ∧ ∃ h, e = .returned (.slice (some ⟨h, 0, none⟩) m m) ∧ JR w' h N ∧ W.heap.size ≤ h))
      have HSI := Lib.hid (fun W a (k : wr.grownBy W none) (j : JR W a N) => same_ints j (HT.out.go k).r HT.out.qm HT.out.ok.len hm8.2)
      have HD := Lib.hid (grown_drew wr)
      obtain ⟨c0, c1⟩ := HCL.out wr HT.out.c.gr
      have c2 := HT.out.cell2
      have HCW := Lib.hid c2
      have HE0 := Lib.hid HT.out.c.gr
      clear hps hP HA HOK HP hkn
      go_wp2_with fail
      go_region_held3 (fun w' => w'.cell? ⟨w.heap.size, 0, none⟩ = some (.int .i64 size) ∧ w'.cell? ⟨w.heap.size, 1, none⟩ = some (.int .i64 (m : Int))) (go_keep)
        (first
          | (go_at_call 32
             (with_reducible refine (HRP.out _ HD.out).mono ?_)
             rintro e w5 ⟨hg, bq, cq, rfl, hj⟩
             have HG5 := Lib.hid (grown_then HD.out hg)
             have HJ5 := Lib.hid hj
             have k0 := (grown_turn HG5.out).cell c0 id
             have k1 := (grown_turn HG5.out).cell c1 id
             clear hj hg)
          | (go_at_call 17
             (with_reducible refine (HLD.out _ _ _ HJ5.out).mono ?_)
             rintro e w6 ⟨g2, h2, cap2, rfl, hcc, hg⟩
             have HG6 := Lib.hid (grown_then HG5.out hg)
             have HC6 := Lib.hid hcc
             have l0 := (grown_turn HG6.out).cell c0 id
             have l1 := (grown_turn HG6.out).cell c1 id
             clear hcc hg)
          | fail)
      have d2 := (grown_turn HG6.out).cell HCW.out id
      clear c0 c1 c2 k0 k1 l0 l1
      have HD6 := Lib.hid (grown_drew w6)
      go_wp2_with fail
      go_region_held3 (fun w' => w'.cell? ⟨o, 2, none⟩ = some (.slice (some ⟨p, 0, none⟩) m q)) (go_keep)
        (first
          | (go_at_call 28
             (with_reducible refine (HAL.out _ _ _ _ (HC6.out.old HD6.out)).mono ?_)
             rintro e w7 ⟨hg, ba, rfl, hj, -⟩
             have HG7 := Lib.hid (grown_then HG6.out (grown_then HD6.out hg))
             have HJ7 := Lib.hid hj
             have k2 := (grown_turn HG7.out).cell HCW.out id
             clear hj hg)
          | (go_at_call 27
             (with_reducible refine (HSI.out _ _ HG7.out HJ7.out).mono ?_)
             rintro e w8 ⟨rfl, hg⟩
             have HG8 := Lib.hid (grown_then HG7.out hg)
             have l2 := (grown_turn HG8.out).cell HCW.out id
             clear hg)
          | fail)
      have HE8 := Lib.hid (HEND.out _ (grown_then HE0.out HG8.out))
      clear d2 k2 l2
      go_wp2
      go_ret
      exact ⟨rfl, HE8.out⟩
end Go.Proofs.Ytkinmcnmdfpjbaa.Cn
