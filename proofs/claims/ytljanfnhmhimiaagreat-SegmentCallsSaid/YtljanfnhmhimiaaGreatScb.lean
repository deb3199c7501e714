/- Parts of the proof. -/
import Derived.Deep.DeepMust
import Derived.Test.YtljanfnhmhimiaaGreatScW
set_option maxRecDepth 100000
set_option maxHeartbeats 8000000
open Go.Lib (hid)
namespace Go.Proofs.YtljanfnhmhimiaaGreat
namespace In
open Go.RowKit Go.Joins
theorem maskC(a:Nat)(ha:a<4294967296):bits .and .u64 (a:Int) 4294967295=(a:Int):=by
 have h:=bits_and_u64_nat a 4294967295 (by omega) (by omega);have e:a &&& 4294967295=a % 4294967296:=Nat.and_two_pow_sub_one_eq_mod a 32;rw[e,Nat.mod_eq_of_lt ha]at h;exact h
theorem Qe6(C:Nat)(hC:C≤65536)(w:World) :
  Calls Tryz.prog 192 #[.int .u64 1,.int .u64 C] w fun e w'=>e=.returned (.tuple #[.int .u64 0,.int .u64 C])∧w=w':=by
 have e1:bits .and .u64 (1:Int) 4294967295=1:=maskC 1 (by decide);have e2:=maskC C (by omega);have e3:(C:Int) / 4294967296=0:=by omega
 have e4:bits .and .u64 (0:Int) 4294967295=0:=maskC 0 (by decide);go_enter Tryz.func192,Tryz.ntmps192
 go_wp2;go_ret2
 exact⟨rfl,rfl⟩
theorem Qfh(C:Nat)(hC:C≤65536)(w:World) :
  Calls Tryz.prog 179 #[.int .u64 1,.int .u64 C] w fun e w'=>e=.returned (.tuple #[.int .u64 0,.int .u64 C])∧w=w':=by
 have H:=hid (Qe6 C hC w);go_enter Tryz.func179,Tryz.ntmps179
 go_wp2_with fail
 refine H.out.mono ?_;rintro e w' ⟨rfl,rfl⟩;dsimp only;go_wp2;go_ret2
 exact⟨rfl,rfl⟩
def fillV(m C:Nat)(v:Int):List Value:=(List.replicate m v++List.replicate (C-m) 0).map (Value.int .i64)
theorem QaA(m C:Nat)(v:Int)(h:m≤C):(fillV m C v).length=C:=by simp[fillV,Nat.add_sub_cancel' h]
theorem Qeu(C:Nat)(v:Int):fillV C C v=(List.replicate C v).map (Value.int .i64):=by simp[fillV]
theorem Qbj(m C q:Nat)(v:Int)(h:m+q≤C):splice (fillV m C v) m (List.replicate q (Value.int .i64 v))=fillV (m+q) C v:=by
 unfold splice fillV;simp only[List.map_append,List.map_replicate,List.length_replicate];rw[List.take_left' (by simp),List.drop_append,List.drop_eq_nil_of_le (by rw[List.length_replicate];omega),List.nil_append,List.length_replicate,List.drop_replicate,←List.append_assoc,List.replicate_append_replicate]
 congr 2
 omega
theorem Qlx(S:Nat):(roomI S).toList=fillV 0 S 0:=by
 rw[show fillV 0 S 0=List.replicate S (Value.int .i64 0) from by simp[fillV]];exact toList_madeCells_one _ _
theorem Qes(C:Nat)(v u:Int):fillV 0 C v=fillV 0 C u:=by simp[fillV]
theorem Qk6(S:Nat)(hS:S≤1000000)(W:World):(Instr.makeSlice 131 (.int .i64 (S:Int)) (.int .i64 (S:Int))).run Tryz.prog W=.ok (.slice (some ⟨W.heap.size,0,none⟩) S S) (W.alloc (.cells (roomI S) 2)):=by
 obtain⟨i0,hi,hz0,hz1,hz2⟩:=info_parts Is.Qax;have h:=run_make (P:=Tryz.prog) W 131 2 i0 (.int .i64 0) Tryz.underlying131 hi hz0 .i64 .i64 (S:Int) (S:Int) (by omega) (by omega) (by rw[hz2];omega) (by omega);rw[hz1,Int.toNat_natCast,Nat.mul_one]at h;exact h
theorem QdD{w:World}{G m C q:Nat}{v:Int}(h:w.heap[G]?=some (.cells (fillV m C v).toArray 2 (0,0)))(hq:q≤m):∀j u,(List.replicate q (Value.int .i64 v))[j]?=some u→w.cell? ((⟨G,0,none⟩:Addr).add j)=some u:=by
 intro j u hu;rw[List.getElem?_replicate]at hu
 split at hu
 ·rename_i hj
  rw[Addr.add_lit,←Option.some.inj hu,Nat.zero_add];unfold World.cell?;rw[show(⟨G,j,none⟩:Addr).block=G from rfl,h];simp only[List.getElem?_toArray];unfold fillV;rw[List.map_append,List.getElem?_append_left (by simp;omega)];simp[List.getElem?_replicate];omega
 ·cases hu
theorem repeat_any (xb C : Nat) (v : Int) (w : World) (C1 : 1 ≤ C) (hC : C ≤ 65536) (hx : w.cell? ⟨xb, 0, none⟩ = some (.int .i64 v)) :
    Calls Tryz.prog 183 #[.slice (some ⟨xb, 0, none⟩) 1 1, .int .i64 C] w fun e w' =>
      e = .returned (.slice (some ⟨w.heap.size, 0, none⟩) C C) ∧ w'.ownsRow w.heap.size 2 1 (.slice (some ⟨w.heap.size, 0, none⟩) C C) C ((List.replicate C v).map (Value.int .i64)) ∧ Below w.heap.size w w' := by
  have hsz : (Tryz.prog.info? 2).map (·.size) = some 1 := by kernel_rfl
  have HM := Lib.hid (Qfh     C hC w)
  have hmk := Qk6        C (by omega)
  have h0 : (w.alloc (.cells (roomI C) 2)).heap[w.heap.size]? = some (.cells (fillV 0 C v).toArray 2 (0, 0)) := by
    have : (fillV 0 C v).toArray = roomI C := by rw [Qes        C v 0, ← Qlx       ]
    rw [this]
    exact heap_alloc_new w _
  have H0 := Lib.hid h0
  have hx1 : (w.alloc (.cells (roomI C) 2)).cell? ⟨xb, 0, none⟩ = some (.int .i64 v) := (World.grownBy_alloc w _ none).cell hx (by simp)
  have HX1 := Lib.hid hx1
  have HG : Hid (Below w.heap.size w (w.alloc (.cells (roomI C) 2))) := Lib.hid ((Below.refl _ w).alloc (Nat.le_refl _) _)
  have HW1 : Hid (∀ j u, ([Value.int .i64 v] : List Value)[j]? = some u → (w.alloc (.cells (roomI C) 2)).cell? ((⟨xb, 0, none⟩ : Addr).add j) = some u) := Lib.hid (by
    intro j u hu
    match j, hu with
    | 0, hu => simp at hu; subst hu; rw [Addr.add_lit]; exact hx1)
  have HF1 : Hid (splice (fillV 0 C v) 0 [Value.int .i64 v] = fillV 1 C v) := Lib.hid (by have := Qbj          0 C 1 v (by omega); simpa using this)
  have HN1 : Hid (([Value.int .i64 v] : List Value).length = Nat.min 1 C) := Lib.hid (by simp [Nat.min_def]; omega)
  have HT1 : Hid (0 + ([Value.int .i64 v] : List Value).length ≤ (fillV 0 C v).length) := Lib.hid (by rw [QaA       0 C v (by omega)]; simp; omega)
  have HV1 : Hid (∀ x ∈ ([Value.int .i64 v] : List Value), x.oneCell' = true) := Lib.hid (by simp [Value.oneCell'])
  clear h0 hx hx1
  go_enter Tryz.func183, Tryz.ntmps183
  go_wp2_with (first
    | (go_at_call 179; refine HM.out.mono ?_; rintro e w' ⟨rfl, rfl⟩)
    | (show wpList _ _ _ ((⟨some 33, _, _, _, _, _⟩ : Oper) :: _) _ _
       go_must (refine wpList_copy_splice rfl (.tmp 31) (.tmp 32) 131 131 rfl 2 Tryz.underlying131 hsz (some ⟨w.heap.size, 0, none⟩) (some ⟨xb, 0, none⟩) C C 1 1 rfl rfl w.heap.size 0 (fillV 0 C v) 2 H0.out [.int .i64 v] HN1.out (fun _ => ⟨rfl, ⟨xb, 0, none⟩, rfl, HW1.out⟩) HT1.out HV1.out w.heap.size w HG.out (Nat.le_refl _) ?_)
       intro w1 hg1 hb1)
    | fail)
  have hg1 : w1.heap[w.heap.size]? = some (.cells (fillV 1 C v).toArray 2 (0, 0)) := by have := hg1.out; rwa [HF1.out] at this
  have HG1 := Lib.hid hg1
  have HB1 := Lib.hid hb1
  clear hg1 hb1
  go_loopw [8] (fun sn wr => ∃ m : Nat, 1 ≤ m ∧ m ≤ C ∧ sn = .int .i64 m ∧ Hid (wr.heap[w.heap.size]? = some (.cells (fillV m C v).toArray 2 (0, 0))) ∧ Hid (Below w.heap.size w wr)) (fun sn _ => C - (intOf sn).toNat)
  case atStart => exact ⟨1, Nat.le_refl _, C1, rfl, HG1, HB1⟩
  case round =>
    obtain ⟨m, m1, mC, rfl, HG, HB⟩ := hrel
    by_cases hlt : m < C
    · obtain ⟨q, hq⟩ : ∃ q, min m (C - m) = q := ⟨_, rfl⟩
      have q1 : 1 ≤ q := by omega
      have hmq : m + q ≤ C := by omega
      have HF := Lib.hid (Qbj          m C q v hmq)
      have HW := Lib.hid (QdD         (q := q) HG.out (by omega))
      have hN : (List.replicate q (Value.int .i64 v)).length = Nat.min m (C - m) := by rw [List.length_replicate]; exact hq.symm
      have hT : m + (List.replicate q (Value.int .i64 v)).length ≤ (fillV m C v).length := by rw [List.length_replicate, QaA       m C v mC]; exact hmq
      have hV : ∀ x ∈ List.replicate q (Value.int .i64 v), x.oneCell' = true := fun x hx => by rw [List.eq_of_mem_replicate hx]; rfl
      have hL : (List.replicate q (Value.int .i64 v)).length = q := List.length_replicate
      obtain ⟨R, hR⟩ : ∃ R, List.replicate q (Value.int .i64 v) = R := ⟨_, rfl⟩
      rw [hR] at HF HW hN hT hV hL
      have HN := Lib.hid hN
      have HT := Lib.hid hT
      have HV := Lib.hid hV
      have HL := Lib.hid hL
      have hne : ¬ C = m := by omega
      clear hN hT hV hL hR hq
      have HGd : Hid (wr.drew.heap[w.heap.size]? = some (.cells (fillV m C v).toArray 2 (0, 0))) := Lib.hid HG.out
      have HWd : Hid (∀ j u, R[j]? = some u → wr.drew.cell? ((⟨w.heap.size, 0, none⟩ : Addr).add j) = some u) := Lib.hid HW.out
      have HBd : Hid (Below w.heap.size w wr.drew) := Lib.hid HB.out.drew
      go_wp2
      go_region_law (first
        | (refine step_copy_splice (by rfl) (.tmp 41) (.tmp 44) 131 131 (by rfl) 2 Tryz.underlying131 hsz (some ⟨w.heap.size, m, none⟩) (some ⟨w.heap.size, 0, none⟩) (C - m) (C - m) m C (by simp [go_sem]) (by simp [go_sem]) w.heap.size m (fillV m C v) 2 (by exact HGd.out) R HN.out (by exact fun _ => ⟨rfl, ⟨w.heap.size, 0, none⟩, rfl, HWd.out⟩) HT.out HV.out w.heap.size w (by exact HBd.out) (Nat.le_refl _) ?_; intro w2 hg2 hb2)
        | fail)
      have hg3 : Hid (w2.heap[w.heap.size]? = some (.cells (fillV (m + q) C v).toArray 2 (0, 0))) := Lib.hid (by rw [← HF.out]; exact hg2.out)
      have hb3 := Lib.hid hb2
      have hwr : IntKind.i64.wrap ((m : Int) + (q : Int)) = ((m + q : Nat) : Int) := by
        rw [IntKind.wrap_i64]
        first | omega | (split <;> omega)
      rw [HL.out, hwr]
      clear hg2 hb2 hwr
      go_simp
      go_roundw
      case rel => exact ⟨.int .i64 ((m : Int) + (q : Int)), _, _, _, _, _, _, _, _, _, _, _, _, _, ⟨m + q, by omega, hmq, by rw [Int.natCast_add], hg3, hb3⟩, rfl⟩
      case measure => simp [intOf]; omega
    · obtain rfl : m = C := by omega
      have HF : Hid (wr.ownsRow w.heap.size 2 1 (.slice (some ⟨w.heap.size, 0, none⟩) m m) m ((List.replicate m v).map (Value.int .i64))) := by
        rw [← Qeu       ]
        refine Lib.hid ⟨by rw [QaA       m m v (Nat.le_refl _), Nat.mul_one], .inr ⟨w.heap.size, m, _, rfl, Nat.le_refl _, HG.out, Nat.le_refl _, by unfold maxLen; omega, by simp [QaA       m m v], ?_⟩⟩
        simp only [Nat.mul_one]
        exact List.take_of_length_le (by rw [QaA       m m v (Nat.le_refl _)]; exact Nat.le_refl _)
      go_wp2
      go_ret
      exact ⟨rfl, HF.out, HB.out⟩
end In
namespace In
open Go.RowKit Go.Joins
open Is (IsI)
open Oct (Rd ReadN ReadV readV ofB)
open Dv (Turn nowhere)
theorem last_at(acc:List Int)(k:Nat)(h:acc.length=k+1):acc.getLast?=some (acc.getD k 0):=by
 rw[List.getLast?_eq_getElem?,h,Nat.add_sub_cancel,List.getD_eq_getElem?_getD,List.getElem?_eq_getElem (by omega)];rfl
theorem Qi0{w:World}{base n c g:Nat}{l:List Int}(h:w.ownsRow base 2 1 (.slice (some ⟨g,0,none⟩) n c) n (l.map (Value.int .i64)))(k:Nat)(hk:k<l.length):w.cell? ⟨g,k,none⟩=some (.int .i64 (l.getD k 0)):=by
 have h2:=h.cells (g:=g) rfl k (.int .i64 (l.getD k 0)) (by simp[List.getD,hk])
 rwa [Addr.add_lit,Nat.zero_add]at h2
theorem getRuns_any (b g n : Nat) (bs : List Int) (w : World) (h : Rd w b g bs) (hg : g < w.heap.size) (hb : Oct.IsB bs) (hn : n ≤ 65536) :
    Calls Tryz.prog 163 #[.pointer (some ⟨b, 0, none⟩), .int .i64 n] w (GetsX b g w (decR true n none n bs)) := by
  obtain ⟨i0, hi, hz0, hz1, hz2⟩ := info_parts Is.Qax     
  have hbl : b < w.heap.size := World.block_lt_of_cell? w _ h.self
  have HBL := Lib.hid hbl
  have HGL := Lib.hid hg
  have hmk := Qcd        n (by omega)
  have h0 := World.ownsRow_made (base := w.heap.size) (e := 2) (size := 1) w (roomI n) n (Nat.le_refl _) (by unfold maxLen; omega) (by rw [Qb5       , Nat.mul_one])
  have HO0 := Lib.hid h0
  have HT0 : Hid (Turn w (w.alloc (.cells (roomI n) 2)) (At b)) := Lib.hid (Turn.alloc w _ _)
  have HR0 : Hid (Rd (w.alloc (.cells (roomI n) 2)) b g bs) := Lib.hid (Turn.rd (Turn.alloc w _ nowhere) h id id)
  have HE0 : Hid (∃ f, n ≤ f ∧ decR true n none n bs = (decR true f ([] : List Int).getLast? n bs).map (fun p => (([] : List Int) ++ p.1, p.2))) := Lib.hid ⟨n, Nat.le_refl _, by simp⟩
  have HB0 := Lib.hid hb
  obtain ⟨X, hX⟩ : ∃ X, X = decR true n none n bs := ⟨_, rfl⟩
  rw [← hX] at HE0 ⊢
  clear h0 h hg hb hbl hX
  go_enter Tryz.func163, Tryz.ntmps163
  go_wp2
  go_loopg [6] n (fun gh so wr => ∃ (k : Nat) (acc rest : List Int), k + gh = n ∧ so = .slice (some ⟨w.heap.size, 0, none⟩) k n ∧ Hid (wr.ownsRow w.heap.size 2 1 (.slice (some ⟨w.heap.size, 0, none⟩) k n) k (acc.map (Value.int .i64))) ∧
      Hid (Rd wr b g rest) ∧ Hid (Oct.IsB rest) ∧ Hid (∃ f, gh ≤ f ∧ X = (decR true f acc.getLast? gh rest).map (fun p => (acc ++ p.1, p.2))) ∧ Hid (Turn w wr (At b)) ∧ Hid (w.heap.size < wr.heap.size))
  case atStart => exact ⟨0, [], bs, by omega, rfl, HO0, HR0, HB0, HE0, HT0, Lib.hid (by simp)⟩
  case round =>
    obtain ⟨k, acc, rest, hk, rfl, HO, HR, HB, HE, HT, HL⟩ := hrel
    have hal : acc.length = k := by have := HO.out.1; rw [List.length_map] at this; omega
    cases gk with
    | zero =>
      obtain rfl : k = n := by omega
      have HF : Hid (GetsX b g w X (.returned (.tuple #[.slice (some ⟨w.heap.size, 0, none⟩) k k, .int .i64 0])) wr) := Lib.hid (by
        obtain ⟨f, _, hd⟩ := HE.out
        have hd2 : X = some (acc, rest) := by rw [hd, QcH      ]; simp
        rw [hd2]
        refine ⟨HT.out, _, k, by rw [hal], ?_, HR.out⟩
        rw [hal]
        exact Is.Seg.own HO.out)
      clear hal
      go_wp2
      go_ret2
      exact HF.out
    | succ m =>
      obtain ⟨f1, hf1, hd⟩ := HE.out
      obtain ⟨f, rfl⟩ : ∃ f', f1 = f' + 1 := ⟨f1 - 1, by omega⟩
      have hstep := decR_step true f m acc rest X hd
      have hf : m ≤ f := by omega
      clear hd hf1
      have HV := Lib.hid (Oct.Qa2     b g rest wr HR.out HB.out)
      unfold ReadV at HV
      have hrd := QQ        rest HB.out
      obtain ⟨q, er, nn, hq⟩ : ∃ q er nn, readV 0 0 rest = (q, er, nn) := ⟨_, _, _, rfl⟩
      rw [hq] at hstep HV
      have hrd := hrd q nn
      rw [hq] at hrd
      dsimp only at hstep HV
      obtain ⟨rest2, hrest2⟩ : ∃ r, r = rest.drop nn := ⟨_, rfl⟩
      have HB2 : Hid (Oct.IsB rest2) := Lib.hid (by rw [hrest2]; exact Qn       HB.out nn)
      rw [← hrest2] at hstep HV
      clear hq hrest2
      by_cases her : er = 0
      · subst her
        have hrd := hrd rfl
        obtain ⟨q0, q1, -⟩ := hrd
        by_cases h8 : rest2.length < 8
        · have HX := Lib.hid (hstep.2.1 rfl h8)
          have H8 := Lib.hid h8
          clear hstep h8
          go_wp2_with fail
          refine HV.out.mono ?_
          rintro e w1 ⟨rfl, hg1, hr1⟩
          have HN := Lib.hid (Oct.QaE         b g rest2 8 w1 hr1 (by decide) (by decide) (by have := H8.out; omega))
          have HF : Hid (GetsX b g w X (.returned (.tuple #[.slice none 0 0, .int .i64 7])) w1) := Lib.hid (by
            rw [HX.out]
            exact ⟨Qe        HT.out (Qg        hg1) (fun i e => .inl e), 7, by decide, rfl⟩)
          clear hg1 hr1
          go_wp2_with fail
          refine HN.out.mono ?_
          rintro e w' ⟨rfl, rfl⟩
          dsimp only
          go_wp2
          go_ret2
          exact HF.out
        · have h8' : 8 ≤ rest2.length := by omega
          have hs3 := hstep.2.2 rfl h8'
          have hz := QaG     (rest2.take 8) (QB       HB2.out 8) (by rw [List.length_take]; omega)
          have HNum : Hid (∀ w1, Rd w1 b g rest2 → _) := Lib.hid (fun w1 hr => Oct.Qaa        b g rest2 8 w1 hr HB2.out (by decide) (by decide) h8')
          unfold ReadN at HNum
          obtain ⟨z, hze⟩ : ∃ z, ofB (rest2.take 8) = z := ⟨_, rfl⟩
          obtain ⟨rest3, hr3⟩ : ∃ r, r = rest2.drop 8 := ⟨_, rfl⟩
          have HB3 : Hid (Oct.IsB rest3) := Lib.hid (by rw [hr3]; exact Qn       HB2.out 8)
          rw [hze] at hz hs3 HNum
          rw [← hr3] at hs3 HNum
          rw [← QbT     z hz.1 hz.2] at hs3
          obtain ⟨M, hM⟩ : ∃ M, M = m + 1 := ⟨_, rfl⟩
          rw [← hM] at hs3
          have M1 : 1 ≤ M := by omega
          have Mn : M + k = n := by omega
          obtain ⟨z', hz'⟩ : ∃ z', wrap64 z = z' := ⟨_, rfl⟩
          rw [hz'] at hs3
          have HK : Hid (∀ wx : World, Rd wx b g rest → True) := Lib.hid (fun _ _ => trivial)
          by_cases hbad : q < 1 ∨ (M : Int) < q ∨ (true = true ∧ acc.getLast? = some z')
          · have HX := Lib.hid (hs3.1 hbad)
            have hcs : (q = 0 ∨ ((q == 0) = false ∧ decide ((M : Int) < q) = true) ∨ ((q == 0) = false ∧ decide ((M : Int) < q) = false ∧ acc.getLast? = some z')) := by
              by_cases h1 : q < 1
              · exact .inl (by omega)
              · have h2 : (q == 0) = false := by simp; omega
                by_cases h3 : (M : Int) < q
                · exact .inr (.inl ⟨h2, decide_eq_true h3⟩)
                · exact .inr (.inr ⟨h2, decide_eq_false h3, (hbad.resolve_left h1).resolve_left h3 |>.2⟩)
            clear hze hr3 hstep h8 h8' hz hs3 hbad
            go_wp2_with fail
            refine HV.out.mono ?_
            rintro e w1 ⟨rfl, hg1, hr1⟩
            have HT1 : Hid (Turn w w1 (At b)) := Lib.hid (Qe        HT.out (Qg        hg1) (fun i e => .inl e))
            have HO1 : Hid (w1.ownsRow w.heap.size 2 1 (.slice (some ⟨w.heap.size, 0, none⟩) k n) k (acc.map (Value.int .i64))) := Lib.hid (Qbp    HO.out hg1 (by have := HBL.out; omega))
            have HN := HNum.out w1 hr1
            clear hg1 hr1
            go_wp2_with fail
            refine HN.mono ?_
            rintro e w2 ⟨rfl, hg2, hr2⟩
            have HF : Hid (GetsX b g w X (.returned (.tuple #[.slice none 0 0, .int .i64 4])) w2) := Lib.hid (by
              rw [HX.out]
              exact ⟨Qe        HT1.out (Qg        hg2) (fun i e => .inl e), 4, by decide, rfl⟩)
            have HO2 : Hid (w2.ownsRow w.heap.size 2 1 (.slice (some ⟨w.heap.size, 0, none⟩) k n) k (acc.map (Value.int .i64))) := Lib.hid (Qbp    HO1.out hg2 (by have := HBL.out; omega))
            clear hg2 hr2 HN HV HNum
            rcases Nat.eq_zero_or_pos k with hk0 | hk0
            · subst hk0
              obtain rfl : M = n := by omega
              obtain rfl := List.eq_nil_of_length_eq_zero hal
              clear hal hk hM M1 Mn hf
              rcases hcs with rfl | ⟨c1, c2⟩ | ⟨_, _, c3⟩
              · go_wp2
                go_ret2
                exact HF.out
              · go_wp2
                go_ret2
                exact HF.out
              · cases c3
            · obtain ⟨j, hj⟩ : ∃ j, k = j + 1 := ⟨k - 1, by omega⟩
              have hcell := Qi0      HO2.out j (by omega)
              have hlast := last_at acc j (by omega)
              rw [hlast] at hcs
              obtain ⟨y, hy⟩ : ∃ y, acc.getD j 0 = y := ⟨_, rfl⟩
              rw [hy] at hcell hcs
              have hMe : (n : Int) - (k : Int) = (M : Int) := by omega
              have hM0 : M ≤ 65536 := by omega
              have hj1 : (k : Int) - 1 = (j : Int) := by omega
              have hj2 : j < k := by omega
              have hj3 : IntKind.i64.wrap (j : Int) = (j : Int) := by rw [IntKind.wrap_i64]; first | omega | (split <;> omega)
              clear hlast hy hal hk hM M1 Mn hf hj hn
              rcases hcs with rfl | ⟨c1, c2⟩ | ⟨c1, c2, c3⟩
              · obtain ⟨B, hB⟩ : ∃ B, (y == z') = B := ⟨_, rfl⟩
                go_wp2
                simp [Oper.wp, go_sem, hj2]
                go_wp2
                go_ret2
                exact HF.out
              · obtain ⟨B, hB⟩ : ∃ B, (y == z') = B := ⟨_, rfl⟩
                go_wp2
                simp [Oper.wp, go_sem, hj2]
                go_wp2
                go_ret2
                exact HF.out
              · obtain rfl : y = z' := Option.some.inj c3
                clear c3
                go_wp2
                simp [Oper.wp, go_sem, hj2]
                go_wp2
                go_ret2
                exact HF.out
          · have hX := hs3.2 hbad
            obtain ⟨C, rfl⟩ : ∃ C : Nat, q = (C : Int) := ⟨q.toNat, by omega⟩
            rw [Int.toNat_natCast] at hX
            have C1 : 1 ≤ C := by omega
            have CM : C ≤ M := by omega
            have hlt : acc.getLast? ≠ some z' := fun e => hbad (.inr (.inr ⟨rfl, e⟩))
            have HE2 : Hid (∃ f, M - C ≤ f ∧ X = (decR true f (acc ++ List.replicate C z').getLast? (M - C) rest3).map (fun p => ((acc ++ List.replicate C z') ++ p.1, p.2))) := Lib.hid ⟨f, by omega, hX⟩
            have HLT := Lib.hid hlt
            have HC1 : Hid (1 ≤ C ∧ C ≤ M ∧ 1 ≤ M ∧ M + k = n) := Lib.hid ⟨C1, CM, M1, Mn⟩
            clear hze hr3 hstep h8 h8' hz hs3 hbad hX hlt q0 q1 C1 CM M1 Mn hM hf
            go_wp2_with fail
            refine HV.out.mono ?_
            rintro e w1 ⟨rfl, hg1, hr1⟩
            have HT1 : Hid (Turn w w1 (At b)) := Lib.hid (Qe        HT.out (Qg        hg1) (fun i e => .inl e))
            have HO1 : Hid (w1.ownsRow w.heap.size 2 1 (.slice (some ⟨w.heap.size, 0, none⟩) k n) k (acc.map (Value.int .i64))) := Lib.hid (Qbp    HO.out hg1 (by have := HBL.out; omega))
            have HL1 : Hid (w.heap.size < w1.heap.size) := Lib.hid (Nat.lt_of_lt_of_le HL.out hg1.size)
            have HN := HNum.out w1 hr1
            clear hg1 hr1
            go_wp2_with fail
            refine HN.mono ?_
            rintro e w2 ⟨rfl, hg2, hr2⟩
            have HT2 : Hid (Turn w w2 (At b)) := Lib.hid (Qe        HT1.out (Qg        hg2) (fun i e => .inl e))
            have HO2 : Hid (w2.ownsRow w.heap.size 2 1 (.slice (some ⟨w.heap.size, 0, none⟩) k n) k (acc.map (Value.int .i64))) := Lib.hid (Qbp    HO1.out hg2 (by have := HBL.out; omega))
            have HL2 : Hid (w.heap.size < w2.heap.size) := Lib.hid (Nat.lt_of_lt_of_le HL1.out hg2.size)
            have HRd2 := Lib.hid hr2
            obtain ⟨C1, CM, M1, Mn⟩ := HC1.out
            have HRep := repeat_any w2.heap.size C z' (w2.alloc (.cells #[.int .i64 z'] 2)) C1 (by omega) (by have := Pk.Qm       w2 (.int .i64 z') 2; exact this)
            have hTA : Turn w2 (w2.alloc (.cells #[.int .i64 z'] 2)) (At b) := Turn.alloc _ _ _
            have hRA : Rd (w2.alloc (.cells #[.int .i64 z'] 2)) b g rest3 := Turn.rd (Turn.alloc w2 _ nowhere) hr2 id id
            have hOA := HO2.out.alloc (.cells #[.int .i64 z'] 2)
            obtain ⟨W1, hW1⟩ : ∃ W1, w2.alloc (.cells #[.int .i64 z'] 2) = W1 := ⟨_, rfl⟩
            rw [hW1] at HRep hTA hRA hOA
            have HW1 := Lib.hid hW1
            have HRA := Lib.hid hRA
            have HOA := Lib.hid hOA
            have HTA : Hid (Turn w W1 (At b)) := Lib.hid (Qe        HT2.out hTA (fun i e => .inl e))
            have HLA : Hid (w.heap.size < W1.heap.size) := Lib.hid (Nat.lt_of_lt_of_le HL2.out hTA.size)
            have HRep := Lib.hid HRep
            have HRL : Hid ((List.replicate C (Value.int .i64 z')).length = C * 1) := Lib.hid (by simp)
            have HR1 : Hid (∀ u ∈ List.replicate C (Value.int .i64 z'), u.oneCell' = true) := Lib.hid (fun u hu => by rw [List.eq_of_mem_replicate hu]; rfl)
            clear hg2 hr2 HN HV HNum hTA hRA hOA
            have hcq : ((C : Int) == 0) = false := by simp; omega
            have hcM : decide ((M : Int) < (C : Int)) = false := decide_eq_false (by omega)
            have hkC : k + C ≤ n := by omega
            have hC0 : C ≤ 65536 := by omega
            have HGk : Hid (k + C + (M - C) = n) := Lib.hid (by omega)
            have HGe : Hid (M - C + C = M) := Lib.hid (by omega)
            rcases Nat.eq_zero_or_pos k with hk0 | hk0
            · subst hk0
              obtain rfl : M = n := by omega
              obtain rfl := List.eq_nil_of_length_eq_zero hal
              clear hal M1 Mn CM
              go_wp2_with (first
                | (go_at_call 183
                   refine HRep.out.mono ?_
                   rintro e w4 ⟨rfl, hown4, hbel4⟩
                   have HO4 : Hid (w4.ownsRow w.heap.size 2 1 (.slice (some ⟨w.heap.size, 0, none⟩) 0 M) 0 (([] : List Int).map (Value.int .i64))) := Lib.hid (own_below HOA.out hbel4)
                   have HC4 : Hid (∀ t u, (List.replicate C (Value.int .i64 z'))[t]? = some u → w4.cell? ((⟨W1.heap.size, 0, none⟩ : Addr).add t) = some u) := Lib.hid (fun t u ht => hown4.cells (g := W1.heap.size) rfl t u (by rw [List.map_replicate]; exact ht))
                   have HT4 : Hid (Turn w w4 (At b)) := Lib.hid (Qe        HTA.out (Qd         hbel4) (fun i e => .inl e))
                   have HR4 : Hid (Rd w4 b g rest3) := Lib.hid (Turn.rd (Qd         (S := nowhere) hbel4) HRA.out id id)
                   have HL4 : Hid (w.heap.size < w4.heap.size) := Lib.hid (Nat.lt_of_lt_of_le HLA.out hbel4.size)
                   clear hown4 hbel4)
                | (at_builtin; refine wpList_append_fits _ rfl (.tmp 61) (.tmp 67) 131 rfl w.heap.size 2 i0 1 Tryz.underlying131 hi hz1 w.heap.size 0 M _ rfl HO4.out ⟨W1.heap.size, 0, none⟩ C C (List.replicate C (.int .i64 z')) rfl HRL.out HC4.out HR1.out hkC ?_; intro w5 hown5 hgrow5)
                | fail)
              have HO5 : Hid (w5.ownsRow w.heap.size 2 1 (.slice (some ⟨w.heap.size, 0, none⟩) (0 + C) M) (0 + C) (([] ++ List.replicate C z').map (Value.int .i64))) := Lib.hid (by rw [List.map_append, List.map_replicate]; exact hown5)
              have HR5 : Hid (Rd w5 b g rest3) := Lib.hid (Turn.rd (Qaw      hgrow5) HR4.out (by have := HBL.out; unfold At; omega) (by have := HGL.out; unfold At; omega))
              have HT5 : Hid (Turn w w5 (At b)) := Lib.hid (Qe        HT4.out (Qaw      hgrow5) (fun i e => .inr (by unfold At at e; omega)))
              have HL5 : Hid (w.heap.size < w5.heap.size) := Lib.hid (Nat.lt_of_lt_of_le HL4.out hgrow5.size)
              clear hown5 hgrow5
              go_roundg (M - C)
              case rel => exact ⟨C, [] ++ List.replicate C z', rest3, by have := HGk.out; omega, rfl, by rw [Nat.zero_add] at HO5; exact HO5, HR5, HB3, HE2, HT5, HL5⟩
              case measure => omega
            · obtain ⟨j, hj⟩ : ∃ j, k = j + 1 := ⟨k - 1, by omega⟩
              have hcell := Qi0      HO2.out j (by omega)
              have hlast := last_at acc j (by omega)
              have hlt := HLT.out
              rw [hlast] at hlt
              obtain ⟨y, hy⟩ : ∃ y, acc.getD j 0 = y := ⟨_, rfl⟩
              rw [hy] at hcell hlt
              have hB : (y == z') = false := by simpa using fun e => hlt (by rw [e])
              have hMe : (n : Int) - (k : Int) = (M : Int) := by omega
              have hM0 : M ≤ 65536 := by omega
              have hj1 : (k : Int) - 1 = (j : Int) := by omega
              have hj2 : j < k := by omega
              have hj3 : IntKind.i64.wrap (j : Int) = (j : Int) := by rw [IntKind.wrap_i64]; first | omega | (split <;> omega)
              clear hlast hy hal M1 Mn hj hn hlt CM
              go_wp2
              simp [Oper.wp, go_sem, hj2]
              go_wp2_with (first
                | (go_at_call 183
                   refine HRep.out.mono ?_
                   rintro e w4 ⟨rfl, hown4, hbel4⟩
                   have HO4 : Hid (w4.ownsRow w.heap.size 2 1 (.slice (some ⟨w.heap.size, 0, none⟩) k n) k (acc.map (Value.int .i64))) := Lib.hid (own_below HOA.out hbel4)
                   have HC4 : Hid (∀ t u, (List.replicate C (Value.int .i64 z'))[t]? = some u → w4.cell? ((⟨W1.heap.size, 0, none⟩ : Addr).add t) = some u) := Lib.hid (fun t u ht => hown4.cells (g := W1.heap.size) rfl t u (by rw [List.map_replicate]; exact ht))
                   have HT4 : Hid (Turn w w4 (At b)) := Lib.hid (Qe        HTA.out (Qd         hbel4) (fun i e => .inl e))
                   have HR4 : Hid (Rd w4 b g rest3) := Lib.hid (Turn.rd (Qd         (S := nowhere) hbel4) HRA.out id id)
                   have HL4 : Hid (w.heap.size < w4.heap.size) := Lib.hid (Nat.lt_of_lt_of_le HLA.out hbel4.size)
                   clear hown4 hbel4)
                | (at_builtin; refine wpList_append_fits _ rfl (.tmp 61) (.tmp 67) 131 rfl w.heap.size 2 i0 1 Tryz.underlying131 hi hz1 w.heap.size k n _ rfl HO4.out ⟨W1.heap.size, 0, none⟩ C C (List.replicate C (.int .i64 z')) rfl HRL.out HC4.out HR1.out hkC ?_; intro w5 hown5 hgrow5)
                | fail)
              have HO5 : Hid (w5.ownsRow w.heap.size 2 1 (.slice (some ⟨w.heap.size, 0, none⟩) (k + C) n) (k + C) ((acc ++ List.replicate C z').map (Value.int .i64))) := Lib.hid (by rw [List.map_append, List.map_replicate]; exact hown5)
              have HR5 : Hid (Rd w5 b g rest3) := Lib.hid (Turn.rd (Qaw      hgrow5) HR4.out (by have := HBL.out; unfold At; omega) (by have := HGL.out; unfold At; omega))
              have HT5 : Hid (Turn w w5 (At b)) := Lib.hid (Qe        HT4.out (Qaw      hgrow5) (fun i e => .inr (by unfold At at e; omega)))
              have HL5 : Hid (w.heap.size < w5.heap.size) := Lib.hid (Nat.lt_of_lt_of_le HL4.out hgrow5.size)
              clear hown5 hgrow5
              go_roundg (M - C)
              case rel => exact ⟨k + C, acc ++ List.replicate C z', rest3, HGk.out, rfl, HO5, HR5, HB3, HE2, HT5, HL5⟩
              case measure => omega
      · have HX := Lib.hid (hstep.1 her)
        have hb : (er == 0) = false := by simpa using her
        have HER := Lib.hid her
        clear hstep her hrd
        go_wp2_with fail
        refine HV.out.mono ?_
        rintro e w1 ⟨rfl, hg1, hr1⟩
        have HF : Hid (GetsX b g w X (.returned (.tuple #[.slice none 0 0, .int .i64 er])) w1) := Lib.hid (by
          rw [HX.out]
          exact ⟨Qe        HT.out (Qg        hg1) (fun i e => .inl e), er, HER.out, rfl⟩)
        clear hg1 hr1
        dsimp only
        go_wp2
        go_ret2
        exact HF.out
end In
namespace In
open Go.RowKit Go.Joins
open Is (IsI)
open Oct (Rd ReadN ReadB ofB Qa6)
open Pk (getR wid IsU GetF)
open Dv (Turn nowhere)
theorem QcZ(b g:Nat)(l:List Int)(n:Int)(w:World)(h:Rd w b g l)(n0:0≤n)(hn:(l.length:Int)<n) :
  Calls Tryz.prog 63 #[.pointer (some ⟨b,0,none⟩),.int .i64 n] w fun e w'=>e=.returned (.tuple #[.slice none 0 0,.int .i64 7])∧w=w':=by
 obtain⟨o,c,h0,hle,hc,hj⟩:=h.cells;have HV:=hid (Qa6 b w h.self);clear hj;go_enter Tryz.func63,Tryz.ntmps63
 go_wp2_with (first
  |(go_at_call 118;refine HV.out.mono ?_;rintro e w' ⟨rfl,rfl⟩)
  |fail)
 go_ret2
 exact⟨rfl,rfl⟩
def gotK(n:Nat)(bs:List Int):Option (List Int×List Int):=(decK true n bs).map fun l=>(l,[])
theorem QkR{n:Nat}{bs:List Int}(h:bs.length<9):gotK n bs=none:=by unfold gotK decK;rw[if_pos h];rfl
theorem Qoe{n:Nat}{bs:List Int}(h:9≤bs.length){E:Int}{B:List Int}(hR:getR (bs.drop 9) n (bs.getD 8 0)=(E,B))(hE:¬E=0):gotK n bs=none:=by
 unfold gotK decK;rw[if_neg (by omega),if_pos (by rw[hR];exact hE)];rfl
theorem QnD{n:Nat}{bs:List Int}(h:9≤bs.length){B:List Int}(hR:getR (bs.drop 9) n (bs.getD 8 0)=(0,B))(hE:¬(minL (B.map (above bs))=sg (ofB (bs.take 8))∧((wid B:Nat):Int)=bs.getD 8 0)):gotK n bs=none:=by
 unfold gotK decK;rw[if_neg (by omega),if_neg (by rw[hR];simp),if_pos (by rw[hR];exact⟨rfl,hE⟩)];rfl
theorem Qnp{n:Nat}{bs:List Int}(h:9≤bs.length){B:List Int}(hR:getR (bs.drop 9) n (bs.getD 8 0)=(0,B))(hE:minL (B.map (above bs))=sg (ofB (bs.take 8))∧((wid B:Nat):Int)=bs.getD 8 0):gotK n bs=some (B.map (above bs),[]):=by
 unfold gotK decK;rw[if_neg (by omega),if_neg (by rw[hR];simp),if_neg (by rw[hR];exact fun h=>h.2 hE),hR];rfl
theorem Qnj(bs B:List Int):IsI (B.map (above bs)):=by
 intro x hx;obtain⟨v,_,rfl⟩:=List.mem_map.1 hx;unfold above;exact sg_bd _ (by omega) (by omega)
theorem Qgm(bs:List Int)(v:Int):wrap64 (IntKind.u64.wrap (ofB (bs.take 8)+v))=above bs v:=by
 rw[IntKind.wrap_u64];exact QbT _ (by omega) (by omega)
theorem Qgr(bs B:List Int)(k:Nat)(x:Int)(h:k<B.length)(hx:B.getD k 0=x):(B.map (above bs)).take (k+1)=(B.map (above bs)).take k++[above bs x]:=by
 rw[List.take_succ_eq_append_getElem (by rw[List.length_map];exact h),←hx];simp[List.getD,h]
theorem Qhy{bs:List Int}(hb:Oct.IsB bs)(h:9≤bs.length):0≤bs.getD 8 0∧bs.getD 8 0<256:=by
 have:=hb (bs.getD 8 0) (by rw[List.getD_eq_getElem?_getD,List.getElem?_eq_getElem (by omega)];exact List.getElem_mem _);exact this
theorem QcK(b g n:Nat)(bs:List Int)(w:World)(h:Rd w b g bs)(hg:g<w.heap.size)(hb:Oct.IsB bs)(hn:n≤65536)(hcap:bs.length≤100000000) :
  Calls Tryz.prog 165 #[.pointer (some ⟨b,0,none⟩),.int .i64 n] w (GetsX b g w (gotK n bs)):=by
 by_cases h9:bs.length<9
 ·have HN:=hid (QcZ b g bs 9 w h (by decide) (by omega));have HF:Hid (GetsX b g w (gotK n bs) (.returned (.tuple #[.slice none 0 0,.int .i64 7])) w):=hid (by
   rw[QkR h9];exact⟨Turn.refl w _,7,by decide,rfl⟩)
  clear h9 h hb hg hcap;go_enter Tryz.func165,Tryz.ntmps165
  go_wp2_with fail
  refine HN.out.mono ?_;rintro e w' ⟨rfl,rfl⟩;dsimp only;go_wp2;go_ret2
  exact HF.out
 ·have h9':9≤bs.length:=by omega
  obtain⟨i0,hi,hz0,hz1,hz2⟩:=info_parts Is.Qax;have hbl:b<w.heap.size:=World.block_lt_of_cell? w _ h.self;have HBL:=hid hbl;have HGL:=hid hg;have HBy:=hid (Oct.Qat b g bs 9 w h h9' (by decide));obtain⟨E,B,hR⟩:∃E B,getR (bs.drop 9) n (bs.getD 8 0)=(E,B):=⟨_,_,rfl⟩;obtain⟨m,hm⟩:∃m,B.length=m:=⟨_,rfl⟩;have HGet:=hid (fun a len c W hs=>Pk.QfO hR hm (Pk.Q0 (Qn hb 9)) a len c W hs);have h8:=Qhy hb h9';have HR:=hid hR;have HMl:=hid hm;have HBs:=hid hb;have H9:=hid h9';have HC:=hid hcap;obtain⟨z,hz⟩:∃z,ofB (bs.take 8)=z:=⟨_,rfl⟩;obtain⟨v8,hv8⟩:∃v,bs.getD 8 0=v:=⟨_,rfl⟩;have hzb:=QaG (bs.take 8) (QB hb 8) (by rw[List.length_take];omega);rw[hz]at hzb;rw[hv8]at h8 HGet;have HZ:=hid hz;have HV8:=hid hv8;clear hR hm hb h9 h9' hg hbl hcap h hz hv8;go_enter Tryz.func165,Tryz.ntmps165
  go_wp2_with fail
  refine HBy.out.mono ?_;intro e w1 hby;obtain⟨x1,q1,rfl,hq1,hown1,hg1,hr1⟩:=hby.value;obtain rfl:q1=9:=by rw[hq1,List.length_take];have:=H9.out;omega
  have HOwn1:=hid hown1;have HT1:Hid (Turn w w1 (At b)):=hid (Qg hg1);have HR1:=hid hr1;have hseg1:=Oct.Seg.own hown1;have c8:w1.cell? ⟨x1,8,none⟩=some (.int .u8 v8):=by
   have:=hseg1.at_ _ rfl 8 (.int .u8 v8) (by
    rw[←HV8.out];have:=H9.out;simp[List.getD,List.getElem?_eq_getElem (show 8<bs.length by omega)])
   rwa [Addr.add_lit]at this
  have HOF:Hid (∀m,Calls Tryz.prog 138 #[.slice (some ⟨x1,0,none⟩) 8 9] (w1.drewN m) fun e w'=>e=.returned (.int .u64 z)∧w'=w1.drewN m):=hid (fun m=>by
   have hsg:=oseg (((bseg hseg1).grown (w':=w1.drewN m) ⟨rfl,rfl,rfl,Nat.le_refl _,fun _ _ _=>rfl⟩).take (show 8≤9 by decide));have h:=Oct.Qmn x1 0 8 9 _ (w1.drewN m) hsg (QB (QB HBs.out 9) 8) (by decide);rw[List.take_take,show min 8 9=8 from rfl,HZ.out]at h;exact h.mono fun e w' ⟨a,b⟩=>⟨a,b.symm⟩)
  clear hq1 hown1 hg1 hr1 hseg1 hby;dsimp only;go_wp2_with fail
  go_quiet ((go_at_call 138;exact Calls.quiet_of_same (HOF.out _)))
  have htX:Turn w1 (w1.drewN nq) (At b):=Turn.drewN w1 nq _;have hRX:Rd (w1.drewN nq) b g (bs.drop 9):=Turn.rd (Turn.drewN w1 nq nowhere) HR1.out id id;have HTX:Hid (Turn w (w1.drewN nq) (At b)):=hid (Qe HT1.out htX (fun i e=>.inl e));clear HOF HOwn1 HR1 c8 htX HT1;generalize w1.drewN nq=X at *;have HL:=hid (Oct.Q9 b g _ X hRX);obtain⟨q,hq⟩:∃q,(bs.drop 9).length=q:=⟨_,rfl⟩;have hqc:q≤140737488355328:=by rw[←hq,List.length_drop];have:=HC.out;omega
  have HBy2:=hid (Oct.Qat b g (bs.drop 9) q X hRX (by omega) hqc);rw[List.take_of_length_le (Nat.le_of_eq hq),List.drop_eq_nil_of_le (Nat.le_of_eq hq)]at HBy2;rw[hq]at HL;have HQ:=hid hq;have HXs:Hid (w.heap.size≤X.heap.size):=hid HTX.out.size;clear hRX hq hqc;go_wp2_with (first
   |(go_at_call 64;refine HL.out.mono ?_;rintro e w' ⟨rfl,rfl⟩)
   |fail)
  refine HBy2.out.mono ?_;intro e w2 hby;obtain⟨x2,q2,rfl,hq2,hown2,hg2,hr2⟩:=hby.value;obtain rfl:q2=q:=by rw[hq2];exact HQ.out
  have HG:=hid (HGet.out _ _ _ w2 (bseg (Oct.Seg.own hown2)));have HT2:Hid (Turn w w2 (At b)):=hid (Qe HTX.out (Qg hg2) (fun i e=>.inl e));have HR2:=hid hr2;clear hby hq2 hown2 hg2 hr2 HBy2 HL HGet HTX HXs;dsimp only;go_wp2_with fail
  refine HG.out.mono ?_;rintro e w3 ⟨a3,k3,rfl,hs3,ht3⟩;have HT3:Hid (Turn w w3 (At b)):=hid (Qe HT2.out ht3 (fun i e=>e.elim));have HR3:Hid (Rd w3 b g []):=hid (Turn.rd ht3 HR2.out id id);have HS3:=hid hs3;clear hs3 ht3 HG HR2 HT2;dsimp only;by_cases hE:E=0
  ·subst hE;obtain⟨p1,p2,p3,p4⟩:=Pk.Qau (bs.drop 9) n (bs.getD 8 0) (Pk.Q0 (Qn HBs.out 9)) (by rw[HR.out]);rw[HR.out]at p2 p4;obtain rfl:m=n:=by rw[←HMl.out];exact Int.ofNat.inj p2
   have HU:=hid p4;have hmk:=Qcd m (by omega);have h0:=World.ownsRow_made (base:=w3.heap.size) (e:=2) (size:=1) w3 (roomI m) m (Nat.le_refl _) (by unfold maxLen;omega) (by rw[Qb5,Nat.mul_one]);have HO0:=hid h0;have HB0:Hid (Below w3.heap.size w3 (w3.alloc (.cells (roomI m) 2))):=hid ((Below.refl _ w3).alloc (Nat.le_refl _) _);obtain⟨L,hL⟩:∃L,B.map (above bs)=L:=⟨_,rfl⟩;have HLl:Hid (L.length=m):=hid (by rw[←hL,List.length_map];exact HMl.out);have HLI:Hid (IsI L):=hid (by rw[←hL];exact Qnj bs B);have HLt:Hid (∀k x,k<m→B.getD k 0=x→L.take (k+1)=L.take k++[wrap64 (IntKind.u64.wrap (z+x))]):=hid (fun k x hk hx=>by
    rw[←HZ.out,Qgm,←hL];exact Qgr bs B k x (by rw[HMl.out];exact hk) hx)
   have HX:Hid ((minL L=wrap64 z∧((wid B:Nat):Int)=v8→gotK m bs=some (L,[]))∧(¬(minL L=wrap64 z∧((wid B:Nat):Int)=v8)→gotK m bs=none)):=hid (by
    rw[←HZ.out,QbT _ (by rw[HZ.out];exact hzb.1) (by rw[HZ.out];exact hzb.2),←HV8.out,←hL];exact⟨fun h=>Qnp H9.out HR.out h,fun h=>QnD H9.out HR.out h⟩)
   clear p1 p2 p3 p4 h0 hL;go_wp2
   go_loopw [13,52] (fun so si wr=>∃k:Nat,k≤m∧si=.int .i64 k∧so=.slice (some ⟨w3.heap.size,0,none⟩) k m∧Hid (wr.ownsRow w3.heap.size 2 1 (.slice (some ⟨w3.heap.size,0,none⟩) k m) k ((L.take k).map (Value.int .i64)))∧Hid (Below w3.heap.size w3 wr))
    (fun _ si _=>m-(intOf si).toNat)
   case atStart=>exact⟨0,Nat.zero_le _,rfl,rfl,HO0,HB0⟩
   case round=>
    obtain⟨k,hk,rfl,rfl,HO,HB⟩:=hrel;by_cases hlt:k<m
    ·have hseg:=HS3.out.grown (Bs.grown_of HB.out);obtain⟨gA,oA,rfl,hc⟩:=hseg.addr (by omega);have g1:=hc k hlt;obtain⟨x,hx⟩:∃x,B.getD k 0=x:=⟨_,rfl⟩;rw[hx]at g1;have HP:=hid (HLt.out k x hlt hx);obtain⟨y,hy⟩:∃y,wrap64 (IntKind.u64.wrap (z+x))=y:=⟨_,rfl⟩;rw[hy]at HP;clear hx hc hseg;go_wp2_with (at_builtin;refine wpList_append_fits _ rfl (.tmp 56) (.tmp 61) 131 rfl w3.heap.size 2 i0 1 Tryz.underlying131 hi hz1 w3.heap.size k m _ rfl (HO.out.alloc _) ⟨wr.heap.size,0,none⟩ 1 1 [.int .i64 y] rfl rfl (by intro t u ht;match t,ht with|0,ht=>simp at ht;subst ht;exact Pk.Qm wr _ _) (by intro u hu;simp at hu;subst hu;rfl) (by omega) ?_;intro w5 hown5 hgrow5)
     go_roundw
     case rel=>
      refine⟨k+1,by omega,by go_num,rfl,hid ?_,hid ((HB.out.alloc HB.out.size _).grown hgrow5 (by have:=HB.out.size;simp;omega) (fun j e=>by cases e;exact Nat.le_refl _))⟩;rw[HP.out,List.map_append];exact hown5
     case measure=>simp[intOf];omega
    ·obtain rfl:k=m:=by omega
     have hown:=HO.out;rw[List.take_of_length_le (Nat.le_of_eq HLl.out)]at hown;have HSeg:=hid (Is.Seg.own hown);have HMin:=hid (Qfd _ _ _ L wr HSeg.out HLI.out);have HWid:=hid (Pk.Qbx _ _ _ B wr (HS3.out.grown (Bs.grown_of HB.out)) HU.out);have HT4:Hid (Turn w wr (At b)):=hid (Qe HT3.out (Qd (S:=nowhere) HB.out) (fun i e=>e.elim));have HR4:Hid (Rd wr b g []):=hid (Turn.rd (Qd (S:=nowhere) HB.out) HR3.out id id);have HF0:Hid (gotK k bs=none→GetsX b g w (gotK k bs) (.returned (.tuple #[.slice none 0 0,.int .i64 4])) wr):=hid (fun e=>by
      rw[e];exact⟨HT4.out,4,by decide,rfl⟩)
     have HF1:Hid (gotK k bs=some (L,[])→GetsX b g w (gotK k bs) (.returned (.tuple #[.slice (some ⟨w3.heap.size,0,none⟩) k k,.int .i64 0])) wr):=hid (fun e=>by
      rw[e];refine⟨HT4.out,_,k,by rw[HLl.out],?_,HR4.out⟩;rw[HLl.out];exact HSeg.out)
     obtain⟨M,hM⟩:∃M,minL L=M:=⟨_,rfl⟩;obtain⟨V,hV⟩:∃V:Nat,wid B=V:=⟨_,rfl⟩;obtain⟨z',hz'⟩:∃z',wrap64 z=z':=⟨_,rfl⟩;rw[hM,hV,hz']at HX;rw[hM]at HMin;rw[hV]at HWid;clear hown hM hV;by_cases c1:M=z'
     ·subst c1;by_cases c2:(V:Int)=v8
      ·have HF:=hid (HF1.out (HX.out.1 ⟨rfl,c2⟩));subst c2;go_wp2_with (first
        |(go_at_call 184;refine HMin.out.mono ?_;rintro e w' ⟨rfl,rfl⟩)
        |(go_at_call 84;refine HWid.out.mono ?_;rintro e w' ⟨rfl,rfl⟩)
        |fail)
       go_ret2
       exact HF.out
      ·have HF:=hid (HF0.out (HX.out.2 fun h=>c2 h.2));have hb:((V:Int)==v8)=false:=by simpa using c2
       clear c2;go_wp2_with (first
        |(go_at_call 184;refine HMin.out.mono ?_;rintro e w' ⟨rfl,rfl⟩)
        |(go_at_call 84;refine HWid.out.mono ?_;rintro e w' ⟨rfl,rfl⟩)
        |fail)
       go_ret2
       exact HF.out
     ·have HF:=hid (HF0.out (HX.out.2 fun h=>c1 h.1));have hb:(M==z')=false:=by simpa using c1
      clear c1;go_wp2_with (first
       |(go_at_call 184;refine HMin.out.mono ?_;rintro e w' ⟨rfl,rfl⟩)
       |(go_at_call 84;refine HWid.out.mono ?_;rintro e w' ⟨rfl,rfl⟩)
       |fail)
      go_ret2
      exact HF.out
  ·have HF:Hid (GetsX b g w (gotK n bs) (.returned (.tuple #[.slice none 0 0,.int .i64 E])) w3):=hid (by
    rw[Qoe H9.out HR.out hE];exact⟨HT3.out,E,hE,rfl⟩)
   have hb:(E==0)=false:=by simpa using hE
   clear hE;go_wp2;go_ret2
   exact HF.out
end In
namespace In
open Go.RowKit Go.Joins
open Is (IsI)
open Oct (Rd ReadN ReadV readV ofB)
open Dv (Turn nowhere)
def GetE(w:World)(r:Int×List Int)(e:Ending)(w':World):Prop:=
 ∃a c,e=.returned (.tuple #[.slice a r.2.length c,.int .i64 r.1])∧Is.Seg w' a r.2.length c r.2∧Below w.heap.size w w'
theorem Qac{w w':World}(h:Below w.heap.size w w'):GetE w (4,[]) (.returned (.tuple #[.slice none 0 0,.int .i64 4])) w':=⟨none,0,rfl,Is.Seg.nil w',h⟩
theorem get_1(a:Option Addr)(n c N nn:Nat)(t:List Int)(w:World)(hs:Bs.Seg w a n c (1 :: t))(hb:Oct.IsB (1 :: t))(hn:n≤100000000)(hv:readV 0 0 t=((N:Int),0,nn))(hN:N≤4096) :
  Calls Tryz.prog 97 #[.slice a n c] w (GetE w (fin (decF true 1 N (t.drop nn)))):=by
 have HNew:=hid (Qah a n c (1 :: t) w (oseg hs) (by omega));have hlen:=hs.len;have htl:(t.drop nn).length≤100000000:=by rw[List.length_drop];rw[List.length_cons]at hlen;omega
 have hbt:Oct.IsB t:=fun x hx=>hb x (by simp[hx])
 have HBt:=hid hbt;have HB:=hid hb;have HTL:=hid htl;have HVe:=hid hv;obtain⟨X,hX⟩:∃X,decF true 1 N (t.drop nn)=X:=⟨_,rfl⟩;have HXe:=hid hX;rw[hX];clear hs hb hbt htl hv hX hlen hn;go_enter Tryz.func97,Tryz.ntmps97
 go_wp2_with fail
 refine HNew.out.mono ?_;rintro e w1 ⟨b,g,rfl,hb0,hg0,hb1,hg1,hrd,hgr⟩;have HNum:Hid (Calls Tryz.prog 94 #[.pointer (some ⟨b,0,none⟩),.int .i64 1] w1 (ReadN b g w1 1 t)):=hid (by
  have:=Oct.Qaa b g (1 :: t) 1 w1 hrd HB.out (by decide) (by decide) (by simp);exact this)
 unfold ReadN at HNum;have HB1:Hid (Below w.heap.size w w1):=hid (below_grown hgr (Nat.le_refl _));have HB0:=hid hb0;have HG1:=hid hg1;clear hb0 hg0 hb1 hg1 hrd hgr;dsimp only;go_wp2_with fail
 refine HNum.out.mono ?_;rintro e w2 ⟨rfl,hg2,hr2⟩;have HVar:=hid (Oct.Qa2 b g t w2 hr2 HBt.out);unfold ReadV at HVar;rw[HVe.out]at HVar;have HB2:Hid (Below w.heap.size w w2):=hid (Qh HB1.out (Qg hg2) HB0.out);have HG2:Hid (g<w2.heap.size):=hid (Nat.lt_of_lt_of_le HG1.out hg2.size);clear hg2 hr2;dsimp only at HVar;dsimp only;go_wp2_with fail
 refine HVar.out.mono ?_;rintro e w3 ⟨rfl,hg3,hr3⟩;have HForm:=hid (Qb2 w3);have HB3:Hid (Below w.heap.size w w3):=hid (Qh HB2.out (Qg hg3) HB0.out);have HG3:Hid (g<w3.heap.size):=hid (Nat.lt_of_lt_of_le HG2.out hg3.size);have HR3:=hid hr3;clear hg3 hr3;dsimp only;go_wp2_with fail
 refine HForm.out.mono ?_;rintro e w4 ⟨rfl,hb4⟩;have HB4:Hid (Below w.heap.size w w4):=hid (HB3.out.trans (Qf hb4 HB3.out.size));have HGet:Hid (Calls Tryz.prog 161 #[.pointer (some ⟨b,0,none⟩),.int .i64 N] w4 (GetsX b g w4 X)):=hid (by
  rw[←HXe.out];exact Qa1 b g N (t.drop nn) w4 (Turn.rd (Qd (S:=nowhere) hb4) HR3.out id id) (Nat.lt_of_lt_of_le HG3.out hb4.size) (Qn HBt.out nn) (by omega))
 clear hb4;dsimp only;unfold formsV;have hix:∀W,(Instr.index 182 (.agg #[.nilFunc,.nilFunc,.func (.func 160) #[] #[],.func (.func 161) #[] #[],.func (.func 162) #[] #[],.func (.func 163) #[] #[],.func (.func 164) #[] #[],.func (.func 165) #[] #[]]) (.int .u64 1)).run Tryz.prog W=.ok (.agg #[.func (.func 160) #[] #[],.func (.func 161) #[] #[]]) W:=fun _=>by kernel_rfl
 have hfx:∀W,(Instr.field 181 (.agg #[.func (.func 160) #[] #[],.func (.func 161) #[] #[]]) 1).run Tryz.prog W=.ok (.func (.func 161) #[] #[]) W:=fun _=>by kernel_rfl
 go_wp2_with fail
 refine HGet.out.mono ?_;rintro e w5 ⟨ht5,hx⟩;have HB5:Hid (Below w.heap.size w w5):=hid (Qh HB4.out ht5 HB0.out);clear ht5 hix hfx HVar HNum HForm;cases X with
 |none=>
  obtain⟨E,hE,rfl⟩:=hx;have HF:Hid (GetE w (fin none) (.returned (.tuple #[.slice none 0 0,.int .i64 4])) w5):=hid (Qac HB5.out);dsimp only;go_wp2_with fail
  go_ret2
  exact HF.out
 |some p=>
  obtain⟨l,rest⟩:=p;obtain⟨a5,c5,rfl,hs5,hr5⟩:=hx;have HL:=hid (Oct.Q9 b g rest w5 hr5);obtain⟨m,hm⟩:∃m,l.length=m:=⟨_,rfl⟩;cases rest with
  |nil=>
   have HF:Hid (GetE w (fin (some (l,[]))) (.returned (.tuple #[.slice a5 m c5,.int .i64 0])) w5):=hid ⟨a5,c5,by rw[←hm];rfl,hs5,HB5.out⟩;rw[hm];clear hm hs5 hr5;dsimp only[List.length_nil]at HL;dsimp only;go_wp2_with (first
    |(go_at_call 64;refine HL.out.mono ?_;rintro e w' ⟨rfl,rfl⟩)
    |fail)
   go_ret2
   exact HF.out
  |cons y r=>
   have HF:Hid (GetE w (fin (some (l,y :: r))) (.returned (.tuple #[.slice none 0 0,.int .i64 4])) w5):=hid (Qac HB5.out);obtain⟨q,hq⟩:∃q,(y :: r).length=q:=⟨_,rfl⟩;have hq1:0<q:=by rw[←hq];simp
   rw[hq]at HL;rw[hm];clear hm hs5 hr5 hq;dsimp only;go_wp2_with (first
    |(go_at_call 64;refine HL.out.mono ?_;rintro e w' ⟨rfl,rfl⟩)
    |fail)
   go_ret2
   exact HF.out
theorem get_2(a:Option Addr)(n c N nn:Nat)(t:List Int)(w:World)(hs:Bs.Seg w a n c (2 :: t))(hb:Oct.IsB (2 :: t))(hn:n≤100000000)(hv:readV 0 0 t=((N:Int),0,nn))(hN:N≤4096) :
  Calls Tryz.prog 97 #[.slice a n c] w (GetE w (fin (decF true 2 N (t.drop nn)))):=by
 have HNew:=hid (Qah a n c (2 :: t) w (oseg hs) (by omega));have hlen:=hs.len;have htl:(t.drop nn).length≤100000000:=by rw[List.length_drop];rw[List.length_cons]at hlen;omega
 have hbt:Oct.IsB t:=fun x hx=>hb x (by simp[hx])
 have HBt:=hid hbt;have HB:=hid hb;have HTL:=hid htl;have HVe:=hid hv;obtain⟨X,hX⟩:∃X,decF true 2 N (t.drop nn)=X:=⟨_,rfl⟩;have HXe:=hid hX;rw[hX];clear hs hb hbt htl hv hX hlen hn;go_enter Tryz.func97,Tryz.ntmps97
 go_wp2_with fail
 refine HNew.out.mono ?_;rintro e w1 ⟨b,g,rfl,hb0,hg0,hb1,hg1,hrd,hgr⟩;have HNum:Hid (Calls Tryz.prog 94 #[.pointer (some ⟨b,0,none⟩),.int .i64 1] w1 (ReadN b g w1 2 t)):=hid (by
  have:=Oct.Qaa b g (2 :: t) 1 w1 hrd HB.out (by decide) (by decide) (by simp);exact this)
 unfold ReadN at HNum;have HB1:Hid (Below w.heap.size w w1):=hid (below_grown hgr (Nat.le_refl _));have HB0:=hid hb0;have HG1:=hid hg1;clear hb0 hg0 hb1 hg1 hrd hgr;dsimp only;go_wp2_with fail
 refine HNum.out.mono ?_;rintro e w2 ⟨rfl,hg2,hr2⟩;have HVar:=hid (Oct.Qa2 b g t w2 hr2 HBt.out);unfold ReadV at HVar;rw[HVe.out]at HVar;have HB2:Hid (Below w.heap.size w w2):=hid (Qh HB1.out (Qg hg2) HB0.out);have HG2:Hid (g<w2.heap.size):=hid (Nat.lt_of_lt_of_le HG1.out hg2.size);clear hg2 hr2;dsimp only at HVar;dsimp only;go_wp2_with fail
 refine HVar.out.mono ?_;rintro e w3 ⟨rfl,hg3,hr3⟩;have HForm:=hid (Qb2 w3);have HB3:Hid (Below w.heap.size w w3):=hid (Qh HB2.out (Qg hg3) HB0.out);have HG3:Hid (g<w3.heap.size):=hid (Nat.lt_of_lt_of_le HG2.out hg3.size);have HR3:=hid hr3;clear hg3 hr3;dsimp only;go_wp2_with fail
 refine HForm.out.mono ?_;rintro e w4 ⟨rfl,hb4⟩;have HB4:Hid (Below w.heap.size w w4):=hid (HB3.out.trans (Qf hb4 HB3.out.size));have HGet:Hid (Calls Tryz.prog 163 #[.pointer (some ⟨b,0,none⟩),.int .i64 N] w4 (GetsX b g w4 X)):=hid (by
  rw[←HXe.out];exact getRuns_any b g N (t.drop nn) w4 (Turn.rd (Qd (S:=nowhere) hb4) HR3.out id id) (Nat.lt_of_lt_of_le HG3.out hb4.size) (Qn HBt.out nn) (by omega))
 clear hb4;dsimp only;unfold formsV;have hix:∀W,(Instr.index 182 (.agg #[.nilFunc,.nilFunc,.func (.func 160) #[] #[],.func (.func 161) #[] #[],.func (.func 162) #[] #[],.func (.func 163) #[] #[],.func (.func 164) #[] #[],.func (.func 165) #[] #[]]) (.int .u64 2)).run Tryz.prog W=.ok (.agg #[.func (.func 162) #[] #[],.func (.func 163) #[] #[]]) W:=fun _=>by kernel_rfl
 have hfx:∀W,(Instr.field 181 (.agg #[.func (.func 162) #[] #[],.func (.func 163) #[] #[]]) 1).run Tryz.prog W=.ok (.func (.func 163) #[] #[]) W:=fun _=>by kernel_rfl
 go_wp2_with fail
 refine HGet.out.mono ?_;rintro e w5 ⟨ht5,hx⟩;have HB5:Hid (Below w.heap.size w w5):=hid (Qh HB4.out ht5 HB0.out);clear ht5 hix hfx HVar HNum HForm;cases X with
 |none=>
  obtain⟨E,hE,rfl⟩:=hx;have HF:Hid (GetE w (fin none) (.returned (.tuple #[.slice none 0 0,.int .i64 4])) w5):=hid (Qac HB5.out);dsimp only;go_wp2_with fail
  go_ret2
  exact HF.out
 |some p=>
  obtain⟨l,rest⟩:=p;obtain⟨a5,c5,rfl,hs5,hr5⟩:=hx;have HL:=hid (Oct.Q9 b g rest w5 hr5);obtain⟨m,hm⟩:∃m,l.length=m:=⟨_,rfl⟩;cases rest with
  |nil=>
   have HF:Hid (GetE w (fin (some (l,[]))) (.returned (.tuple #[.slice a5 m c5,.int .i64 0])) w5):=hid ⟨a5,c5,by rw[←hm];rfl,hs5,HB5.out⟩;rw[hm];clear hm hs5 hr5;dsimp only[List.length_nil]at HL;dsimp only;go_wp2_with (first
    |(go_at_call 64;refine HL.out.mono ?_;rintro e w' ⟨rfl,rfl⟩)
    |fail)
   go_ret2
   exact HF.out
  |cons y r=>
   have HF:Hid (GetE w (fin (some (l,y :: r))) (.returned (.tuple #[.slice none 0 0,.int .i64 4])) w5):=hid (Qac HB5.out);obtain⟨q,hq⟩:∃q,(y :: r).length=q:=⟨_,rfl⟩;have hq1:0<q:=by rw[←hq];simp
   rw[hq]at HL;rw[hm];clear hm hs5 hr5 hq;dsimp only;go_wp2_with (first
    |(go_at_call 64;refine HL.out.mono ?_;rintro e w' ⟨rfl,rfl⟩)
    |fail)
   go_ret2
   exact HF.out
theorem get_3(a:Option Addr)(n c N nn:Nat)(t:List Int)(w:World)(hs:Bs.Seg w a n c (3 :: t))(hb:Oct.IsB (3 :: t))(hn:n≤100000000)(hv:readV 0 0 t=((N:Int),0,nn))(hN:N≤4096) :
  Calls Tryz.prog 97 #[.slice a n c] w (GetE w (fin (decF true 3 N (t.drop nn)))):=by
 have HNew:=hid (Qah a n c (3 :: t) w (oseg hs) (by omega));have hlen:=hs.len;have htl:(t.drop nn).length≤100000000:=by rw[List.length_drop];rw[List.length_cons]at hlen;omega
 have hbt:Oct.IsB t:=fun x hx=>hb x (by simp[hx])
 have HBt:=hid hbt;have HB:=hid hb;have HTL:=hid htl;have HVe:=hid hv;obtain⟨X,hX⟩:∃X,decF true 3 N (t.drop nn)=X:=⟨_,rfl⟩;have HXe:=hid hX;rw[hX];clear hs hb hbt htl hv hX hlen hn;go_enter Tryz.func97,Tryz.ntmps97
 go_wp2_with fail
 refine HNew.out.mono ?_;rintro e w1 ⟨b,g,rfl,hb0,hg0,hb1,hg1,hrd,hgr⟩;have HNum:Hid (Calls Tryz.prog 94 #[.pointer (some ⟨b,0,none⟩),.int .i64 1] w1 (ReadN b g w1 3 t)):=hid (by
  have:=Oct.Qaa b g (3 :: t) 1 w1 hrd HB.out (by decide) (by decide) (by simp);exact this)
 unfold ReadN at HNum;have HB1:Hid (Below w.heap.size w w1):=hid (below_grown hgr (Nat.le_refl _));have HB0:=hid hb0;have HG1:=hid hg1;clear hb0 hg0 hb1 hg1 hrd hgr;dsimp only;go_wp2_with fail
 refine HNum.out.mono ?_;rintro e w2 ⟨rfl,hg2,hr2⟩;have HVar:=hid (Oct.Qa2 b g t w2 hr2 HBt.out);unfold ReadV at HVar;rw[HVe.out]at HVar;have HB2:Hid (Below w.heap.size w w2):=hid (Qh HB1.out (Qg hg2) HB0.out);have HG2:Hid (g<w2.heap.size):=hid (Nat.lt_of_lt_of_le HG1.out hg2.size);clear hg2 hr2;dsimp only at HVar;dsimp only;go_wp2_with fail
 refine HVar.out.mono ?_;rintro e w3 ⟨rfl,hg3,hr3⟩;have HForm:=hid (Qb2 w3);have HB3:Hid (Below w.heap.size w w3):=hid (Qh HB2.out (Qg hg3) HB0.out);have HG3:Hid (g<w3.heap.size):=hid (Nat.lt_of_lt_of_le HG2.out hg3.size);have HR3:=hid hr3;clear hg3 hr3;dsimp only;go_wp2_with fail
 refine HForm.out.mono ?_;rintro e w4 ⟨rfl,hb4⟩;have HB4:Hid (Below w.heap.size w w4):=hid (HB3.out.trans (Qf hb4 HB3.out.size));have HGet:Hid (Calls Tryz.prog 165 #[.pointer (some ⟨b,0,none⟩),.int .i64 N] w4 (GetsX b g w4 X)):=hid (by
  rw[←HXe.out];exact QcK b g N (t.drop nn) w4 (Turn.rd (Qd (S:=nowhere) hb4) HR3.out id id) (Nat.lt_of_lt_of_le HG3.out hb4.size) (Qn HBt.out nn) (by omega) HTL.out)
 clear hb4;dsimp only;unfold formsV;have hix:∀W,(Instr.index 182 (.agg #[.nilFunc,.nilFunc,.func (.func 160) #[] #[],.func (.func 161) #[] #[],.func (.func 162) #[] #[],.func (.func 163) #[] #[],.func (.func 164) #[] #[],.func (.func 165) #[] #[]]) (.int .u64 3)).run Tryz.prog W=.ok (.agg #[.func (.func 164) #[] #[],.func (.func 165) #[] #[]]) W:=fun _=>by kernel_rfl
 have hfx:∀W,(Instr.field 181 (.agg #[.func (.func 164) #[] #[],.func (.func 165) #[] #[]]) 1).run Tryz.prog W=.ok (.func (.func 165) #[] #[]) W:=fun _=>by kernel_rfl
 go_wp2_with fail
 refine HGet.out.mono ?_;rintro e w5 ⟨ht5,hx⟩;have HB5:Hid (Below w.heap.size w w5):=hid (Qh HB4.out ht5 HB0.out);clear ht5 hix hfx HVar HNum HForm;cases X with
 |none=>
  obtain⟨E,hE,rfl⟩:=hx;have HF:Hid (GetE w (fin none) (.returned (.tuple #[.slice none 0 0,.int .i64 4])) w5):=hid (Qac HB5.out);dsimp only;go_wp2_with fail
  go_ret2
  exact HF.out
 |some p=>
  obtain⟨l,rest⟩:=p;obtain⟨a5,c5,rfl,hs5,hr5⟩:=hx;have HL:=hid (Oct.Q9 b g rest w5 hr5);obtain⟨m,hm⟩:∃m,l.length=m:=⟨_,rfl⟩;cases rest with
  |nil=>
   have HF:Hid (GetE w (fin (some (l,[]))) (.returned (.tuple #[.slice a5 m c5,.int .i64 0])) w5):=hid ⟨a5,c5,by rw[←hm];rfl,hs5,HB5.out⟩;rw[hm];clear hm hs5 hr5;dsimp only[List.length_nil]at HL;dsimp only;go_wp2_with (first
    |(go_at_call 64;refine HL.out.mono ?_;rintro e w' ⟨rfl,rfl⟩)
    |fail)
   go_ret2
   exact HF.out
  |cons y r=>
   have HF:Hid (GetE w (fin (some (l,y :: r))) (.returned (.tuple #[.slice none 0 0,.int .i64 4])) w5):=hid (Qac HB5.out);obtain⟨q,hq⟩:∃q,(y :: r).length=q:=⟨_,rfl⟩;have hq1:0<q:=by rw[←hq];simp
   rw[hq]at HL;rw[hm];clear hm hs5 hr5 hq;dsimp only;go_wp2_with (first
    |(go_at_call 64;refine HL.out.mono ?_;rintro e w' ⟨rfl,rfl⟩)
    |fail)
   go_ret2
   exact HF.out
end In
namespace In
open Go.RowKit Go.Joins
open Is (IsI)
open Oct (Rd ReadN ReadV readV ofB)
open Dv (Turn nowhere)
theorem Qf8(a:Option Addr)(n c:Nat)(w:World)(hs:Bs.Seg w a n c [])(hn:n≤100000000) :
  Calls Tryz.prog 97 #[.slice a n c] w (GetE w (4,[])):=by
 have HNew:=hid (Qah a n c [] w (oseg hs) (by omega));clear hs hn;go_enter Tryz.func97,Tryz.ntmps97
 go_wp2_with fail
 refine HNew.out.mono ?_;rintro e w1 ⟨b,g,rfl,hb0,hg0,hb1,hg1,hrd,hgr⟩;have HNum:=hid (Oct.QaE b g [] 1 w1 hrd (by decide) (by decide) (by decide));have HF:Hid (GetE w (4,[]) (.returned (.tuple #[.slice none 0 0,.int .i64 4])) w1):=hid (Qac (below_grown hgr (Nat.le_refl _)));clear hb0 hg0 hb1 hg1 hrd hgr;dsimp only;go_wp2_with fail
 refine HNum.out.mono ?_;rintro e w2 ⟨rfl,rfl⟩;dsimp only;go_wp2;go_ret2
 exact HF.out
theorem Qc6(a:Option Addr)(n c:Nat)(k:Int)(t:List Int)(w:World)(hs:Bs.Seg w a n c (k :: t))(hb:Oct.IsB (k :: t))(hn:n≤100000000)(hk:k<1∨3<k) :
  Calls Tryz.prog 97 #[.slice a n c] w (GetE w (4,[])):=by
 have HNew:=hid (Qah a n c (k :: t) w (oseg hs) (by omega));have HB:=hid hb;have hk0:=hb k (by simp);clear hs hb hn;go_enter Tryz.func97,Tryz.ntmps97
 go_wp2_with fail
 refine HNew.out.mono ?_;rintro e w1 ⟨b,g,rfl,hb0,hg0,hb1,hg1,hrd,hgr⟩;have HNum:Hid (Calls Tryz.prog 94 #[.pointer (some ⟨b,0,none⟩),.int .i64 1] w1 (ReadN b g w1 k t)):=hid (by
  have:=Oct.Qaa b g (k :: t) 1 w1 hrd HB.out (by decide) (by decide) (by simp)
  rwa [show ofB ((k :: t).take 1)=k from by simp[ofB]]at this)
 unfold ReadN at HNum;have HB1:Hid (Below w.heap.size w w1):=hid (below_grown hgr (Nat.le_refl _));have HB0:=hid hb0;clear hb0 hg0 hb1 hg1 hrd hgr;dsimp only;go_wp2_with fail
 refine HNum.out.mono ?_;rintro e w2 ⟨rfl,hg2,hr2⟩;have HF:Hid (GetE w (4,[]) (.returned (.tuple #[.slice none 0 0,.int .i64 4])) w2):=hid (Qac (Qh HB1.out (Qg hg2) HB0.out));clear hg2 hr2;dsimp only;rcases hk with hk|hk
 ·obtain rfl:k=0:=by omega
  go_wp2;go_ret2
  exact HF.out
 ·have h1:¬k<1:=by omega
  have h3:3<k:=hk;go_wp2;go_ret2
  exact HF.out
theorem Qpi(a:Option Addr)(n c:Nat)(k N er:Int)(nn:Nat)(t:List Int)(w:World)(hs:Bs.Seg w a n c (k :: t))(hb:Oct.IsB (k :: t))(hn:n≤100000000)(k1:1≤k)(k3:k≤3)(hv:readV 0 0 t=(N,er,nn))(hN:er≠0∨(er=0∧4096<N)) :
  Calls Tryz.prog 97 #[.slice a n c] w (GetE w (4,[])):=by
 have HNew:=hid (Qah a n c (k :: t) w (oseg hs) (by omega));have HB:=hid hb;have HBt:Hid (Oct.IsB t):=hid fun x hx=>hb x (by simp[hx])
 have HVe:=hid hv;have h1:¬k<1:=by omega
 have h3:¬3<k:=by omega
 clear hs hb hn hv k1 k3;go_enter Tryz.func97,Tryz.ntmps97
 go_wp2_with fail
 refine HNew.out.mono ?_;rintro e w1 ⟨b,g,rfl,hb0,hg0,hb1,hg1,hrd,hgr⟩;have HNum:Hid (Calls Tryz.prog 94 #[.pointer (some ⟨b,0,none⟩),.int .i64 1] w1 (ReadN b g w1 k t)):=hid (by
  have:=Oct.Qaa b g (k :: t) 1 w1 hrd HB.out (by decide) (by decide) (by simp)
  rwa [show ofB ((k :: t).take 1)=k from by simp[ofB]]at this)
 unfold ReadN at HNum;have HB1:Hid (Below w.heap.size w w1):=hid (below_grown hgr (Nat.le_refl _));have HB0:=hid hb0;clear hb0 hg0 hb1 hg1 hrd hgr;dsimp only;go_wp2_with fail
 refine HNum.out.mono ?_;rintro e w2 ⟨rfl,hg2,hr2⟩;have HVar:=hid (Oct.Qa2 b g t w2 hr2 HBt.out);unfold ReadV at HVar;rw[HVe.out]at HVar;have HB2:Hid (Below w.heap.size w w2):=hid (Qh HB1.out (Qg hg2) HB0.out);clear hg2 hr2;dsimp only at HVar;dsimp only;rcases hN with hN|⟨rfl,hN⟩
 ·go_wp2_with fail
  refine HVar.out.mono ?_;rintro e w3 ⟨rfl,hg3,hr3⟩;have HF:Hid (GetE w (4,[]) (.returned (.tuple #[.slice none 0 0,.int .i64 4])) w3):=hid (Qac (Qh HB2.out (Qg hg3) HB0.out));clear hg3 hr3;dsimp only;go_wp2;go_ret2
  exact HF.out
 ·go_wp2_with fail
  refine HVar.out.mono ?_;rintro e w3 ⟨rfl,hg3,hr3⟩;have HF:Hid (GetE w (4,[]) (.returned (.tuple #[.slice none 0 0,.int .i64 4])) w3):=hid (Qac (Qh HB2.out (Qg hg3) HB0.out));clear hg3 hr3;dsimp only;go_wp2;go_ret2
  exact HF.out
theorem Qc2(a:Option Addr)(n c:Nat)(bs:List Int)(w:World)(hs:Bs.Seg w a n c bs)(hb:Oct.IsB bs)(hn:n≤100000000) :
  Calls Tryz.prog 97 #[.slice a n c] w (GetE w (getI bs)):=by
 match bs,hs,hb with
 | [],hs,_=>exact Qf8 a n c w hs hn
 |k :: t,hs,hb=>
  obtain⟨N,er,nn,hv⟩:∃N er nn,readV 0 0 t=(N,er,nn):=⟨_,_,_,rfl⟩;by_cases hk:k<1∨3<k
  ·rw[getI,if_pos hk];exact Qc6 a n c k t w hs hb hn hk
  ·rw[getI,if_neg hk,hv];dsimp only;by_cases hN:er≠0∨4096<N
   ·rw[if_pos hN];exact Qpi a n c k N er nn t w hs hb hn (by omega) (by omega) hv (by
     by_cases h:er=0
     ·exact .inr ⟨h,hN.resolve_left fun h2=>h2 h⟩
     ·exact .inl h)
   ·rw[if_neg hN];have her:er=0:=Classical.byContradiction fun h=>hN (.inl h)
    subst her;obtain⟨q0,q1,-⟩:=QQ t (fun x hx=>hb x (by simp[hx])) N nn hv;obtain⟨M,rfl⟩:∃M:Nat,N=(M:Int):=⟨N.toNat,by omega⟩;have hM:M≤4096:=by omega
    rw[Int.toNat_natCast];have hk3:k=1∨k=2∨k=3:=by omega
    rcases hk3 with rfl|rfl|rfl
    ·exact get_1 a n c M nn t w hs hb hn hv hM
    ·exact get_2 a n c M nn t w hs hb hn hv hM
    ·exact get_3 a n c M nn t w hs hb hn hv hM
end In
end Go.Proofs.YtljanfnhmhimiaaGreat
