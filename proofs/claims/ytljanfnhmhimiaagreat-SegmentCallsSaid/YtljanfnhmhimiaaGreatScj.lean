/- Parts of the proof. -/
import Derived.Test.YtljanfnhmhimiaaGreatScZ
import Derived.Test.YtljanfnhmhimiaaGreatSci
set_option maxRecDepth 100000
set_option maxHeartbeats 8000000
open Go.Lib (hid)
namespace Go.Proofs.YtljanfnhmhimiaaGreat
namespace Sg
open Go.RowKit Go.Joins Zn Zr Dv
open Bs (Qj)
theorem QkG(c:Cel)(w:World):Calls Tryz.prog 89 #[.agg #[.int .i64 c.k,.int .i64 c.n,.string c.s]] w fun e w'=>e=.returned (.int .i64 c.n)∧w.grownBy w' none:=by
 have HG:=hid (Qb w (.cells #[.int .i64 c.k,.int .i64 c.n,.string c.s] 24));go_enter Tryz.func89,Tryz.ntmps89
 go_wp2;go_ret
 exact⟨rfl,HG.out⟩
theorem Qku(c:Cel)(w:World):Calls Tryz.prog 98 #[.agg #[.int .i64 c.k,.int .i64 c.n,.string c.s]] w fun e w'=>e=.returned (.int .u64 (In.u c.n))∧w.grownBy w' none:=by
 have HG:=hid (Qb w (.cells #[.int .i64 c.k,.int .i64 c.n,.string c.s] 24));have hw:IntKind.u64.wrap c.n=In.u c.n:=In.QcA c.n;go_enter Tryz.func98,Tryz.ntmps98
 go_wp2;go_ret
 exact⟨rfl,HG.out⟩
theorem Qke(c:Cel)(w:World):Calls Tryz.prog 105 #[.agg #[.int .i64 c.k,.int .i64 c.n,.string c.s]] w fun e w'=>e=.returned (.string c.s)∧w.grownBy w' none:=by
 have HG:=hid (Qb w (.cells #[.int .i64 c.k,.int .i64 c.n,.string c.s] 24));go_enter Tryz.func105,Tryz.ntmps105
 go_wp2;go_ret
 exact⟨rfl,HG.out⟩
theorem QmN(v:Int)(w:World):Calls Tryz.prog 90 #[.int .i64 v] w fun e w'=>e=.returned (.agg #[.int .i64 1,.int .i64 v,.string ⟨#[]⟩])∧w.grownBy w' none:=by
 go_enter Tryz.func90,Tryz.ntmps90
 go_wp2;refine bodyPost_ret (v:=.agg #[.int .i64 1,.int .i64 v,.string ⟨#[]⟩]) (Qaf rfl _ _ w.heap.size _ _ (0,0) _ rfl (heap_alloc_new _ _) Tryz.underlying24 rfl QbM) rfl ⟨rfl,Qb _ _⟩
theorem Qng(v:Int)(h0:0≤v)(h1:v<9223372036854775808)(w:World):Calls Tryz.prog 99 #[.int .u64 v] w fun e w'=>e=.returned (.agg #[.int .i64 2,.int .i64 v,.string ⟨#[]⟩])∧w.grownBy w' none:=by
 have hw:IntKind.i64.wrap v=v:=IntWalk.i64_in _ (by omega);go_enter Tryz.func99,Tryz.ntmps99
 go_wp2;refine bodyPost_ret (v:=.agg #[.int .i64 2,.int .i64 v,.string ⟨#[]⟩]) (Qaf rfl _ _ w.heap.size _ _ (0,0) _ rfl (heap_alloc_new _ _) Tryz.underlying24 rfl QbM) rfl ⟨rfl,Qb _ _⟩
theorem Qmd(s:ByteArray)(w:World):Calls Tryz.prog 106 #[.string s] w fun e w'=>e=.returned (.agg #[.int .i64 3,.int .i64 0,.string s])∧w.grownBy w' none:=by
 go_enter Tryz.func106,Tryz.ntmps106
 go_wp2;refine bodyPost_ret (v:=.agg #[.int .i64 3,.int .i64 0,.string s]) (Qaf rfl _ _ w.heap.size _ _ (0,0) _ rfl (heap_alloc_new _ _) Tryz.underlying24 rfl QbM) rfl ⟨rfl,Qb _ _⟩
def BytesX(w:World)(m:Nat)(B:List Int)(e:Ending)(w':World):Prop:=∃a k,e=.returned (.slice a m k)∧Bs.Seg w' a m k B∧Turn w w' nowhere
theorem QiS{w w':World}{B:List Int}{e:Ending}{m:Nat}(hm:B.length=m)(h:Oct.NewB w B e w'):BytesX w m B e w':=by
 obtain⟨g,q,rfl,hf⟩:=h.value;obtain⟨hq,hown,hg⟩:=hf.is;obtain rfl:q=m:=hq.trans hm;exact⟨_,_,rfl,In.bseg (Oct.Seg.own hown),Pk.Qc hg⟩
theorem QoE(v:Int)(w:World):Calls Tryz.prog 91 #[.int .i64 v] w (BytesX w 8 (In.num8 v)):=by
 have hw:IntKind.u64.wrap v=In.u v:=In.QcA v;have HP:=hid (Oct.Qb3 none 0 0 [] (In.u v) 8 w (Oct.Seg.nil w) (In.u_bd v).1 (In.u_bd v).2 (by decide) (by decide) (by decide));go_enter Tryz.func91,Tryz.ntmps91
 go_wp2_with fail
 refine HP.out.mono ?_;rintro e w1 hnew;rw[List.nil_append]at hnew;have HF:=hid (QiS (m:=8) (In.Qu v) hnew);obtain⟨g,q,rfl,hf⟩:=hnew.value;clear hf hw;go_wp2;go_ret
 exact HF.out
theorem Qny(v:Int)(h0:0≤v)(h1:v<256)(w:World):Calls Tryz.prog 100 #[.int .u64 v] w (BytesX w 1 [v]):=by
 have HP:=hid (Oct.Qb3 none 0 0 [] v 1 w (Oct.Seg.nil w) h0 (by omega) (by decide) (by decide) (by decide));have HE:Hid ([]++Oct.putB 1 v=[v]):=hid (by rw[List.nil_append];show [v % 256]=[v];rw[Int.emod_eq_of_lt h0 h1]);go_enter Tryz.func100,Tryz.ntmps100
 go_wp2_with fail
 refine HP.out.mono ?_;rintro e w1 hnew;rw[HE.out]at hnew;have HF:=hid (QiS (m:=1) rfl hnew);obtain⟨g,q,rfl,hf⟩:=hnew.value;clear hf;go_wp2;go_ret
 exact HF.out
theorem QnL(x:List Int)(m:Nat)(hx:Bs.IsB x)(hl:x.length≤65536)(hm:(Tx.strB x).length=m)(w:World):Calls Tryz.prog 107 #[.string (strOfNums x)] w (BytesX w m (Tx.strB x)):=by
 obtain⟨i0,hi,hz0,hz1,hz2⟩:=info_parts Qj;have hss:=strOfNums_size x;obtain⟨xl,hxe⟩:∃n,x.length=n:=⟨_,rfl⟩;rw[hxe]at hss hl;have hwu:=Tx.wrap_u64 (n:=xl) (by omega);have HPut:=hid (Oct.Qar none 0 0 [] (xl:Int) w (Oct.Seg.nil w) (by omega) (by omega) (by omega));have hvl:=Oct.QE 9 (xl:Int);have HSS:=hid hss;have HX:=hid hx;have HXE:=hid hxe;have HM:Hid ((Oct.varB 9 (xl:Int)++x).length=m):=hid (by rw[←hm,←hxe];rfl);have HS:Hid (Tx.strB x=Oct.varB 9 (xl:Int)++x):=hid (by rw[←hxe];rfl);clear hm hx hxe;go_enter Tryz.func107,Tryz.ntmps107
 go_wp2_with fail
 refine HPut.out.mono ?_;rintro e w1 hnew;rw[List.nil_append]at hnew;obtain⟨g,p,rfl,hf⟩:=hnew.value;obtain⟨hp,hown1,hg⟩:=hf.is;rw[←hp]at hvl;have HPl:=hid hp;have HO1:=hid hown1;have HG1:=hid hg;have HS2:Hid (w.heap.size≤w1.heap.size):=hid hg.size;clear hnew hf hown1 hg hp;go_wp2_with (at_builtin;refine Lib.wpList_append_own_string _ rfl _ _ 45 9 rfl w.heap.size 5 i0 Tryz.underlying45 Tryz.underlying9 hi hz0 hz1 hz2 _ p _ rfl HO1.out (strOfNums x) rfl (by rw[HSS.out];unfold maxLen;omega) (by rw[HSS.out];omega) HS2.out ?_;intro v3 w3 hown3 hgrow3 hnil3)
 rw[HSS.out,Tx.QbO x HX.out,←List.map_append]at hown3;obtain⟨g3,c3,rfl⟩:=Nu.ownsRow_form hown3 (by have:=HPl.out;have:=Oct.QaN 9 (xl:Int);omega);have HF:Hid (BytesX w m (Tx.strB x) (.returned (.slice (some ⟨g3,0,none⟩) (p+xl) c3)) w3):=hid (by
  have h1:=HM.out;rw[List.length_append,←HPl.out,HXE.out]at h1;rw[HS.out,←h1];exact⟨_,_,rfl,Bs.Seg.own hown3,Pk.Qc (Bs.grownBy_trans HG1.out hgrow3 (fun i e=>(HO1.out.lt i e).1))⟩)
 clear hown3 hgrow3 hnil3;go_wp2;go_ret
 exact HF.out
theorem putCell_I (b : Nat) (c : Cel) (w : World) : Calls Tryz.prog 237 #[.agg #[.func (.func 89) #[] #[], .func (.func 90) #[] #[], .func (.func 91) #[] #[], .func (.func 93) #[] #[], .func (.func 95) #[] #[], .func (.func 140) #[] #[.pointer (some ⟨b, 0, none⟩)]], .agg #[.int .i64 c.k, .int .i64 c.n, .string c.s]] w (BytesX w 8 (In.num8 c.n)) := by
  have HV := fun W => QkG     c W
  have HP := Lib.hid (fun W => QoE      c.n W)
  have HV := Lib.hid HV
  go_enter Tryz.func237, Tryz.ntmps237
  go_wp2
  go_region_held3 (fun w' => w'.cell? ⟨w.heap.size, 2, none⟩ = some (.func (.func 91) #[] #[]) ∧ w'.cell? ⟨w.heap.size, 0, none⟩ = some (.func (.func 89) #[] #[]) ∧ w'.cell? ⟨w.heap.size + 1, 0, none⟩ = some (.int .i64 c.k) ∧ w'.cell? ⟨w.heap.size + 1, 1, none⟩ = some (.int .i64 c.n) ∧ w'.cell? ⟨w.heap.size + 1, 2, none⟩ = some (.string c.s)) (go_keep)
    (first
      | (go_at_call 89
         (with_reducible refine (HV.out _).mono ?_)
         rintro e wv ⟨rfl, hg⟩
         have T1 := Lib.hid (((Turn.alloc w _ nowhere).trans (Turn.alloc _ _ nowhere) (fun _ _ h => h)).trans ((Turn.drew _ nowhere).trans (Pk.Qc      hg) (fun _ _ h => h)) (fun _ _ h => h))
         have q0 := (Pk.Qc      hg).cell (p := ⟨w.heap.size, 2, none⟩) (v := .func (.func 91) #[] #[]) (by simp [go_sem]) id
         have q1 := (Pk.Qc      hg).cell (p := ⟨w.heap.size, 0, none⟩) (v := .func (.func 89) #[] #[]) (by simp [go_sem]) id
         have q2 := (Pk.Qc      hg).cell (p := ⟨w.heap.size + 1, 0, none⟩) (v := .int .i64 c.k) (by simp [go_sem]) id
         have q3 := (Pk.Qc      hg).cell (p := ⟨w.heap.size + 1, 1, none⟩) (v := .int .i64 c.n) (by simp [go_sem]) id
         have q4 := (Pk.Qc      hg).cell (p := ⟨w.heap.size + 1, 2, none⟩) (v := .string c.s) (by simp [go_sem]) id
         clear hg)
      | (go_at_call 91
         (with_reducible refine (HP.out _).mono ?_)
         rintro e w2 ⟨a, k, rfl, hs, ht⟩
         have T2 := Lib.hid (T1.out.trans ht (fun _ _ h => h))
         have S2 := Lib.hid hs
         have p0 := ht.cell q0 id
         have p1 := ht.cell q1 id
         have p2 := ht.cell q2 id
         have p3 := ht.cell q3 id
         have p4 := ht.cell q4 id
         clear hs ht)
      | fail)
  go_wp2
  go_ret
  exact ⟨a, k, rfl, S2.out, T2.out⟩
theorem putCell_B (c : Cel) (h0 : 0 ≤ c.n) (h1 : c.n < 256) (w : World) : Calls Tryz.prog 241 #[.agg #[.func (.func 98) #[] #[], .func (.func 99) #[] #[], .func (.func 100) #[] #[], .func (.func 101) #[] #[], .func (.func 102) #[] #[], .func (.func 103) #[] #[]], .agg #[.int .i64 c.k, .int .i64 c.n, .string c.s]] w (BytesX w 1 [c.n]) := by
  have HV := fun W => Qku     c W
  have hu : In.u c.n = c.n := by unfold In.u; omega
  rw [hu] at HV
  have HP := Lib.hid (fun W => Qny      c.n h0 h1 W)
  have HV := Lib.hid HV
  go_enter Tryz.func241, Tryz.ntmps241
  go_wp2
  go_region_held3 (fun w' => w'.cell? ⟨w.heap.size, 2, none⟩ = some (.func (.func 100) #[] #[]) ∧ w'.cell? ⟨w.heap.size, 0, none⟩ = some (.func (.func 98) #[] #[]) ∧ w'.cell? ⟨w.heap.size + 1, 0, none⟩ = some (.int .i64 c.k) ∧ w'.cell? ⟨w.heap.size + 1, 1, none⟩ = some (.int .i64 c.n) ∧ w'.cell? ⟨w.heap.size + 1, 2, none⟩ = some (.string c.s)) (go_keep)
    (first
      | (go_at_call 98
         (with_reducible refine (HV.out _).mono ?_)
         rintro e wv ⟨rfl, hg⟩
         have T1 := Lib.hid (((Turn.alloc w _ nowhere).trans (Turn.alloc _ _ nowhere) (fun _ _ h => h)).trans ((Turn.drew _ nowhere).trans (Pk.Qc      hg) (fun _ _ h => h)) (fun _ _ h => h))
         have q0 := (Pk.Qc      hg).cell (p := ⟨w.heap.size, 2, none⟩) (v := .func (.func 100) #[] #[]) (by simp [go_sem]) id
         have q1 := (Pk.Qc      hg).cell (p := ⟨w.heap.size, 0, none⟩) (v := .func (.func 98) #[] #[]) (by simp [go_sem]) id
         have q2 := (Pk.Qc      hg).cell (p := ⟨w.heap.size + 1, 0, none⟩) (v := .int .i64 c.k) (by simp [go_sem]) id
         have q3 := (Pk.Qc      hg).cell (p := ⟨w.heap.size + 1, 1, none⟩) (v := .int .i64 c.n) (by simp [go_sem]) id
         have q4 := (Pk.Qc      hg).cell (p := ⟨w.heap.size + 1, 2, none⟩) (v := .string c.s) (by simp [go_sem]) id
         clear hg)
      | (go_at_call 100
         (with_reducible refine (HP.out _).mono ?_)
         rintro e w2 ⟨a, k, rfl, hs, ht⟩
         have T2 := Lib.hid (T1.out.trans ht (fun _ _ h => h))
         have S2 := Lib.hid hs
         have p0 := ht.cell q0 id
         have p1 := ht.cell q1 id
         have p2 := ht.cell q2 id
         have p3 := ht.cell q3 id
         have p4 := ht.cell q4 id
         clear hs ht)
      | fail)
  go_wp2
  go_ret
  exact ⟨a, k, rfl, S2.out, T2.out⟩
theorem putCell_T (b : Nat) (c : Cel) (hl : c.s.size ≤ 65536) (m : Nat) (hm : (Tx.strB (nm c.s)).length = m) (w : World) : Calls Tryz.prog 245 #[.agg #[.func (.func 105) #[] #[], .func (.func 106) #[] #[], .func (.func 107) #[] #[], .func (.func 108) #[] #[], .func (.func 109) #[] #[], .func (.func 146) #[] #[.pointer (some ⟨b, 0, none⟩)]], .agg #[.int .i64 c.k, .int .i64 c.n, .string c.s]] w (BytesX w m (Tx.strB (nm c.s))) := by
  have HV := fun W => Qke     c W
  have HP := Lib.hid (fun W => (by have h := QnL      (nm c.s) m (Qd1    _) (by rw [Qb7   ]; exact hl) hm W; rw [QjA   ] at h; exact h : Calls Tryz.prog 107 #[.string c.s] W (BytesX W m (Tx.strB (nm c.s)))))
  have HV := Lib.hid HV
  go_enter Tryz.func245, Tryz.ntmps245
  go_wp2
  go_region_held3 (fun w' => w'.cell? ⟨w.heap.size, 2, none⟩ = some (.func (.func 107) #[] #[]) ∧ w'.cell? ⟨w.heap.size, 0, none⟩ = some (.func (.func 105) #[] #[]) ∧ w'.cell? ⟨w.heap.size + 1, 0, none⟩ = some (.int .i64 c.k) ∧ w'.cell? ⟨w.heap.size + 1, 1, none⟩ = some (.int .i64 c.n) ∧ w'.cell? ⟨w.heap.size + 1, 2, none⟩ = some (.string c.s)) (go_keep)
    (first
      | (go_at_call 105
         (with_reducible refine (HV.out _).mono ?_)
         rintro e wv ⟨rfl, hg⟩
         have T1 := Lib.hid (((Turn.alloc w _ nowhere).trans (Turn.alloc _ _ nowhere) (fun _ _ h => h)).trans ((Turn.drew _ nowhere).trans (Pk.Qc      hg) (fun _ _ h => h)) (fun _ _ h => h))
         have q0 := (Pk.Qc      hg).cell (p := ⟨w.heap.size, 2, none⟩) (v := .func (.func 107) #[] #[]) (by simp [go_sem]) id
         have q1 := (Pk.Qc      hg).cell (p := ⟨w.heap.size, 0, none⟩) (v := .func (.func 105) #[] #[]) (by simp [go_sem]) id
         have q2 := (Pk.Qc      hg).cell (p := ⟨w.heap.size + 1, 0, none⟩) (v := .int .i64 c.k) (by simp [go_sem]) id
         have q3 := (Pk.Qc      hg).cell (p := ⟨w.heap.size + 1, 1, none⟩) (v := .int .i64 c.n) (by simp [go_sem]) id
         have q4 := (Pk.Qc      hg).cell (p := ⟨w.heap.size + 1, 2, none⟩) (v := .string c.s) (by simp [go_sem]) id
         clear hg)
      | (go_at_call 107
         (with_reducible refine (HP.out _).mono ?_)
         rintro e w2 ⟨a, k, rfl, hs, ht⟩
         have T2 := Lib.hid (T1.out.trans ht (fun _ _ h => h))
         have S2 := Lib.hid hs
         have p0 := ht.cell q0 id
         have p1 := ht.cell q1 id
         have p2 := ht.cell q2 id
         have p3 := ht.cell q3 id
         have p4 := ht.cell q4 id
         clear hs ht)
      | fail)
  go_wp2
  go_ret
  exact ⟨a, k, rfl, S2.out, T2.out⟩
end Sg
namespace Sg
open Go.RowKit Go.Joins Zn Zr Dv
open Oct (Rd ReadN ReadV readV ofB)
open In (At Qg sg)
def OneX(b g:Nat)(w:World)(o:Option (Value×List Int))(e:Ending)(w':World):Prop:=
 Turn w w' (At b)∧∃v er r,e=.returned (.tuple #[v,.int .i64 er])∧Rd w' b g r∧Oct.IsB r∧r.length≤100000000∧(match (generalizing:=false) o with
  |some (x,rest)=>er=0∧v=x∧r=rest
  |none=>er≠0)
def oneI(bs:List Int):Option (Value×List Int):=if bs.length<8 then none else some (.int .i64 (sg (ofB (bs.take 8))),bs.drop 8)
def oneB:List Int→Option (Value×List Int)
 | []=>none
 |v :: t=>some (.int .u64 v,t)
def oneT(bs:List Int):Option (Value×List Int):=match Tx.readS bs with
 |none=>none
 |some (s,t)=>some (.string (strOfNums s),t)
def CellX(b g:Nat)(kind:Int)(w:World)(o:Option (Cel×List Int))(e:Ending)(w':World):Prop:=
 Turn w w' (At b)∧∃c r,e=.returned (.agg #[.int .i64 c.k,.int .i64 c.n,.string c.s])∧Rd w' b g r∧Oct.IsB r∧r.length≤100000000∧(match (generalizing:=false) o with
  |some (x,rest)=>c=x∧r=rest
  |none=>¬CelOk kind c)
theorem QiJ(b g:Nat)(bs:List Int)(w:World)(h:Rd w b g bs)(hb:Oct.IsB bs)(hl:bs.length≤100000000) :
  Calls Tryz.prog 93 #[.pointer (some ⟨b,0,none⟩)] w (OneX b g w (oneI bs)):=by
 unfold oneI;by_cases h8:bs.length<8
 ·rw[if_pos h8];have HN:=hid (Oct.QaE b g bs 8 w h (by decide) (by decide) (by omega));have HF:Hid (OneX b g w none (.returned (.tuple #[.int .i64 0,.int .i64 7])) w):=hid ⟨Turn.refl _ _,_,_,bs,rfl,h,hb,hl,(by show(7:Int)≠0;decide)⟩;clear h hb hl h8;go_enter Tryz.func93,Tryz.ntmps93
  go_wp2_with fail
  refine HN.out.mono ?_;rintro e w1 ⟨rfl,rfl⟩;go_wp2;go_ret2
  exact HF.out
 ·rw[if_neg h8];have HN:=hid (Oct.Qaa b g bs 8 w h hb (by decide) (by decide) (by omega));obtain⟨x,hx⟩:∃x,x=ofB (bs.take 8):=⟨_,rfl⟩;have hxb:=In.QaG _ (In.QB hb 8) (by rw[List.length_take];omega);have hxe:IntKind.i64.wrap x=sg x:=by rw[IntWalk.i64_left];exact In.QbT _ (by rw[hx];exact hxb.1) (by rw[hx];exact hxb.2)
  rw[←hx]at HN ⊢;have HB:=hid hb;clear h hb h8 hx hxb;go_enter Tryz.func93,Tryz.ntmps93
  go_wp2_with fail
  refine HN.out.mono ?_;rintro e w1 ⟨rfl,hg,hr⟩;have HF:Hid (OneX b g w (some (.int .i64 (sg x),bs.drop 8)) (.returned (.tuple #[.int .i64 (sg x),.int .i64 0])) w1):=hid ⟨Qg hg,_,_,_,rfl,hr,In.Qn HB.out 8,by rw[List.length_drop];omega,rfl,rfl,rfl⟩;clear hg hr;dsimp only;go_wp2;go_ret2
  exact HF.out
theorem Qjs(b g:Nat)(bs:List Int)(w:World)(h:Rd w b g bs)(hb:Oct.IsB bs)(hl:bs.length≤100000000) :
  Calls Tryz.prog 101 #[.pointer (some ⟨b,0,none⟩)] w (OneX b g w (oneB bs)):=by
 cases bs with
 |nil=>
  have HN:=hid (Oct.QaE b g [] 1 w h (by decide) (by decide) (by decide));have HF:Hid (OneX b g w none (.returned (.tuple #[.int .u64 0,.int .i64 7])) w):=hid ⟨Turn.refl _ _,_,_,[],rfl,h,hb,hl,(by show(7:Int)≠0;decide)⟩;clear h hb hl
  show Calls _ _ _ _ (OneX b g w none)
  go_enter Tryz.func101,Tryz.ntmps101
  go_wp2_with fail
  refine HN.out.mono ?_;rintro e w1 ⟨rfl,rfl⟩;go_wp2;go_ret2
  exact HF.out
 |cons v t=>
  have hn:=Oct.Qaa b g (v :: t) 1 w h hb (by decide) (by decide) (by simp);have he:ofB ((v :: t).take 1)=v:=by
   show v+256*ofB (t.take 0)=v
   rw[List.take_zero]
   show v+256*0=v
   omega
  have hd:(v :: t).drop 1=t:=rfl;rw[he,hd]at hn;have HN:=hid hn;have HB:Hid (Oct.IsB t∧t.length≤100000000):=hid ⟨fun x hx=>hb x (List.mem_cons_of_mem _ hx),by rw[List.length_cons]at hl;omega⟩;clear h hb hl he hd hn
  show Calls _ _ _ _ (OneX b g w (some (.int .u64 v,t)))
  go_enter Tryz.func101,Tryz.ntmps101
  go_wp2_with fail
  refine HN.out.mono ?_;rintro e w1 ⟨rfl,hg,hr⟩;have HF:Hid (OneX b g w (some (.int .u64 v,t)) (.returned (.tuple #[.int .u64 v,.int .i64 0])) w1):=hid ⟨Qg hg,_,_,_,rfl,hr,HB.out.1,HB.out.2,rfl,rfl,rfl⟩;clear hg hr;dsimp only;go_wp2;go_ret2
  exact HF.out
theorem Qfz(b g:Nat)(bs:List Int)(w:World)(h:Rd w b g bs)(hb:Oct.IsB bs)(hl:bs.length≤100000000) :
  Calls Tryz.prog 108 #[.pointer (some ⟨b,0,none⟩)] w (OneX b g w (oneT bs)):=by
 unfold oneT;have HVar:=hid (Oct.Qa2 b g bs w h hb);unfold ReadV at HVar;obtain⟨v,er,nn,hv⟩:∃v er nn,readV 0 0 bs=(v,er,nn):=⟨_,_,_,rfl⟩;have hvb:er=0→0≤v:=fun h0=>by subst h0;exact(In.QQ bs hb v nn hv).1
 unfold Tx.readS;rw[hv]at HVar ⊢;dsimp only at HVar ⊢;obtain⟨r1,hr1⟩:∃r,bs.drop nn=r:=⟨_,rfl⟩;have hr1b:Oct.IsB r1:=hr1▸In.Qn hb nn;have hr1l:r1.length≤100000000:=by rw[←hr1,List.length_drop];omega
 rw[hr1]at HVar ⊢;have HR1:=hid hr1b;have HR2:=hid hr1l;clear h hb hv hr1 hr1b hr1l hl;by_cases he:er=0
 ·subst he;have hv0:=hvb rfl;clear hvb;by_cases hl:65536<v
  ·rw[if_pos (.inr (.inl hl))];dsimp only;go_enter Tryz.func108,Tryz.ntmps108
   go_wp2_with fail
   refine HVar.out.mono ?_;rintro e w1 ⟨rfl,hg,hr⟩;have HF:Hid (OneX b g w none (.returned (.tuple #[.string ⟨#[]⟩,.int .i64 4])) w1):=hid ⟨Qg hg,_,_,_,rfl,hr,HR1.out,HR2.out,(by show(4:Int)≠0;decide)⟩;clear hg hr;dsimp only;go_wp2;go_ret2
   exact HF.out
  ·obtain⟨m,rfl⟩:=Int.eq_ofNat_of_zero_le hv0;have hmw:IntKind.i64.wrap (m:Int)=(m:Int):=IntWalk.i64_in _ (by omega);by_cases hm:(r1.length:Int)<(m:Int)
   ·rw[if_pos (.inr (.inr hm))];dsimp only;go_enter Tryz.func108,Tryz.ntmps108
    go_wp2_with fail
    refine HVar.out.mono ?_;rintro e w1 ⟨rfl,hg,hr⟩;have HBy:=hid (In.QcZ b g r1 (m:Int) w1 hr (by omega) hm);have HF:Hid (OneX b g w none (.returned (.tuple #[.string ⟨#[]⟩,.int .i64 7])) w1):=hid ⟨Qg hg,_,_,_,rfl,hr,HR1.out,HR2.out,(by show(7:Int)≠0;decide)⟩;have hcv:∀W:World,(convert 45 9 (.slice none 0 0)).run Tryz.prog W=.ok (.string ⟨#[]⟩) W:=fun W=>by kernel_rfl
    clear hg hr hm;dsimp only;go_wp2_with fail
    refine HBy.out.mono ?_;rintro e w2 ⟨rfl,rfl⟩;go_wp2;go_ret2
    exact HF.out
   ·rw[if_neg (by rintro(h|h|h);exact h rfl;exact hl h;exact hm h),Int.toNat_natCast];dsimp only;have hml:m≤r1.length:=by omega
    have HML:=hid hml;have hm2:m≤140737488355328:=by omega
    clear hm hv0 hml;go_enter Tryz.func108,Tryz.ntmps108
    go_wp2_with fail
    refine HVar.out.mono ?_;rintro e w1 ⟨rfl,hg,hr⟩;have HBy:=hid (Oct.Qat b g r1 m w1 hr HML.out hm2);have HG1:=hid hg;clear hg hr;dsimp only;go_wp2_with fail
    refine HBy.out.mono ?_;rintro e w2 hrb;obtain⟨x,q,rfl,hq,hown,hg2,hr2⟩:=hrb.value;have hcv:=Tx.Qf4 hown;have HF:Hid (OneX b g w (some (.string (strOfNums (r1.take m)),r1.drop m)) (.returned (.tuple #[.string (strOfNums (r1.take m)),.int .i64 0])) w2):=hid
     ⟨(Qg HG1.out).trans (Qg hg2) (fun _ _ h=>h),_,_,_,rfl,hr2,In.Qn HR1.out m,by rw[List.length_drop];have:=HR2.out;omega,rfl,rfl,rfl⟩
    clear hq hown hg2 hr2 hrb HG1;dsimp only;go_wp2;go_ret2
    exact HF.out
 ·rw[if_pos (.inl he)];dsimp only;clear hvb;go_enter Tryz.func108,Tryz.ntmps108
  go_wp2_with fail
  refine HVar.out.mono ?_;rintro e w1 ⟨rfl,hg,hr⟩;have HF:Hid (OneX b g w none (.returned (.tuple #[.string ⟨#[]⟩,.int .i64 4])) w1):=hid ⟨Qg hg,_,_,_,rfl,hr,HR1.out,HR2.out,(by show(4:Int)≠0;decide)⟩;clear hg hr;dsimp only;go_wp2;go_ret2
  exact HF.out
end Sg
namespace Sg
open Go.RowKit Go.Joins Zn Zr Dv
open Oct (Rd ReadN ReadV readV ofB)
open In (At Qg sg)
theorem Qo1{c:Cel}(h:CelOk 2 c):0≤c.n∧c.n<2:=by
 have hk:=h.k;rcases QcG h.ok with q|q|q|q
 ·omega
 ·omega
 ·have:=q.2.1;omega
 ·omega
theorem rd_lt{w:World}{b g:Nat}{l:List Int}(h:Rd w b g l):b<w.heap.size:=by
 obtain⟨o,c,h0,_⟩:=h.cells;exact World.block_lt_of_cell? w _ h0
theorem Qcf{w:World}{fn:Func}{p:Tmp}(h:fn.results=#[.cell p 24])(tmps:Array Value)(g:Nat)(c:Cel)(hp:tmps.getD p undef=.pointer (some ⟨g,0,none⟩))(hg:CB w g c) :
  (results fn tmps).run Tryz.prog w=.ok (.agg #[.int .i64 c.k,.int .i64 c.n,.string c.s]) w:=Qaf h tmps w g _ _ _ _ hp hg Tryz.underlying24 rfl QbM
theorem QiP(cb:Nat)(b g:Nat)(bs:List Int)(w:World)(h:Rd w b g bs)(hg:g<w.heap.size)(hb:Oct.IsB bs)(hl:bs.length≤100000000)(ho:oneI bs=none) :
  Calls Tryz.prog 235 #[.agg #[.func (.func 89) #[] #[],.func (.func 90) #[] #[],.func (.func 91) #[] #[],.func (.func 93) #[] #[],.func (.func 95) #[] #[],.func (.func 140) #[] #[.pointer (some ⟨cb,0,none⟩)]],.pointer (some ⟨b,0,none⟩)] w (CellX b g 1 w none):=by
 have hbl:=rd_lt h;obtain⟨W2,hW2⟩:∃V,(w.alloc (.cells #[.func (.func 89) #[] #[],.func (.func 90) #[] #[],.func (.func 91) #[] #[],.func (.func 93) #[] #[],.func (.func 95) #[] #[],.func (.func 140) #[] #[.pointer (some ⟨cb,0,none⟩)]] 99)).alloc (.cells #[.int .i64 0,.int .i64 0,.string ⟨#[]⟩] 24)=V:=⟨_,rfl⟩;have ht2:Turn w W2 nowhere:=by rw[←hW2];exact(Turn.alloc w _ nowhere).trans (Turn.alloc _ _ nowhere) (fun _ _ h=>h)
 have hz2:CB W2 (w.heap.size+1) zeroC:=by rw[←hW2];have h:=CB.new (w.alloc (.cells #[.func (.func 89) #[] #[],.func (.func 90) #[] #[],.func (.func 91) #[] #[],.func (.func 93) #[] #[],.func (.func 95) #[] #[],.func (.func 140) #[] #[.pointer (some ⟨cb,0,none⟩)]] 99)) zeroC;rw[World.size_alloc]at h;exact h
 have hf:W2.cell? ⟨w.heap.size,3,none⟩=some (.func (.func 93) #[] #[]):=by rw[←hW2];simp[go_sem]
 have h1:=QiJ b g bs W2 (In.Turn.rd ht2 h id id) hb hl;rw[ho]at h1;have H1:=hid h1;have HW:=hid hW2;have HT2:=hid ht2;have HZ2:=hid hz2;have hne:w.heap.size+1≠b:=by omega
 clear hW2 ht2 hz2 h1 h hb hl ho;go_enter Tryz.func235,Tryz.ntmps235
 go_upto_region 1 with (fail)
 rw[HW.out];go_wp2_with fail
 refine H1.out.mono ?_;rintro e w3 ⟨ht3,v,er,r,rfl,hr3,hb3,hl3,he⟩;have T3:=hid ((HT2.out.mono (fun _ _ e=>e.elim):Turn w W2 (At b)).trans ht3 (fun _ _ h=>h));have Z3:Hid (CB w3 (w.heap.size+1) zeroC):=hid (Qk HZ2.out ht3 hne);have q0:(er != 0)=true:=bne_iff_ne.2 he;have R3:=hid hr3;have B3:=hid (And.intro hb3 hl3);clear ht3 hr3 hb3 hl3 he hf H1 HW HT2 HZ2;dsimp only;go_wp2_with (first
  |(with_reducible refine Qx rfl (.tmp 4) (.tmp 16) rfl (w.heap.size+1) rfl zeroC rfl zeroC Z3.out ?_;intro w4 hz4 ht4)
  |fail)
 refine bodyPost_ret (Qcf rfl _ _ zeroC rfl hz4) rfl ⟨QU T3.out ht4 (by omega),zeroC,r,rfl,In.Turn.rd ht4 R3.out (by omega) (by omega),B3.out.1,B3.out.2,fun hh=>?_⟩;have h1:=hh.k;have h2:zeroC.k=0:=rfl;omega
theorem Qik(cb:Nat)(x:Int)(b g:Nat)(bs rest:List Int)(w:World)(h:Rd w b g bs)(hg:g<w.heap.size)(hb:Oct.IsB bs)(hl:bs.length≤100000000)(ho:oneI bs=some (.int .i64 x,rest)) :
  Calls Tryz.prog 235 #[.agg #[.func (.func 89) #[] #[],.func (.func 90) #[] #[],.func (.func 91) #[] #[],.func (.func 93) #[] #[],.func (.func 95) #[] #[],.func (.func 140) #[] #[.pointer (some ⟨cb,0,none⟩)]],.pointer (some ⟨b,0,none⟩)] w fun e w'=>Turn w w' (At b)∧e=.returned (.agg #[.int .i64 (⟨1,x,⟨#[]⟩⟩:Cel).k,.int .i64 (⟨1,x,⟨#[]⟩⟩:Cel).n,.string (⟨1,x,⟨#[]⟩⟩:Cel).s])∧Rd w' b g rest∧Oct.IsB rest∧rest.length≤100000000:=by
 have hbl:=rd_lt h;have HCC:=hid (fun W=>QmN x W);obtain⟨W2,hW2⟩:∃V,(w.alloc (.cells #[.func (.func 89) #[] #[],.func (.func 90) #[] #[],.func (.func 91) #[] #[],.func (.func 93) #[] #[],.func (.func 95) #[] #[],.func (.func 140) #[] #[.pointer (some ⟨cb,0,none⟩)]] 99)).alloc (.cells #[.int .i64 0,.int .i64 0,.string ⟨#[]⟩] 24)=V:=⟨_,rfl⟩;have ht2:Turn w W2 nowhere:=by rw[←hW2];exact(Turn.alloc w _ nowhere).trans (Turn.alloc _ _ nowhere) (fun _ _ h=>h)
 have hz2:CB W2 (w.heap.size+1) zeroC:=by rw[←hW2];have h:=CB.new (w.alloc (.cells #[.func (.func 89) #[] #[],.func (.func 90) #[] #[],.func (.func 91) #[] #[],.func (.func 93) #[] #[],.func (.func 95) #[] #[],.func (.func 140) #[] #[.pointer (some ⟨cb,0,none⟩)]] 99)) zeroC;rw[World.size_alloc]at h;exact h
 have hf:W2.cell? ⟨w.heap.size,3,none⟩=some (.func (.func 93) #[] #[]):=by rw[←hW2];simp[go_sem]
 have hf1:W2.cell? ⟨w.heap.size,1,none⟩=some (.func (.func 90) #[] #[]):=by rw[←hW2];simp[go_sem]
 have h1:=QiJ b g bs W2 (In.Turn.rd ht2 h id id) hb hl;rw[ho]at h1;have H1:=hid h1;have HW:=hid hW2;have HT2:=hid ht2;have HZ2:=hid hz2;have HF1:=hid hf1;have hne:w.heap.size+1≠b:=by omega
 clear hW2 ht2 hz2 h1 h hb hl ho hf1;go_enter Tryz.func235,Tryz.ntmps235
 go_upto_region 1 with (fail)
 rw[HW.out];go_wp2_with fail
 refine H1.out.mono ?_;rintro e w3 ⟨ht3,v,er,r,rfl,hr3,hb3,hl3,he,hv,hr⟩;subst he hv hr;have T3:=hid ((HT2.out.mono (fun _ _ e=>e.elim):Turn w W2 (At b)).trans ht3 (fun _ _ h=>h));have Z3:Hid (CB w3 (w.heap.size+1) zeroC):=hid (Qk HZ2.out ht3 hne);have f1:=ht3.cell HF1.out (by show ¬w.heap.size=b;omega);have R3:=hid hr3;have B3:=hid (And.intro hb3 hl3);clear ht3 hr3 hb3 hl3 hf H1 HW HT2 HZ2 HF1;dsimp only;go_wp2_with fail
 refine(HCC.out _).mono ?_;rintro e w4 ⟨rfl,hg4⟩;have T4:=hid (T3.out.trans (Pk.Qc hg4) (fun _ _ e=>e.elim));have Z4:=hid (Z3.out.old hg4);have R4:=hid (In.Turn.rd (Pk.Qc hg4) R3.out id id);clear hg4 T3 Z3 R3 f1 HCC;dsimp only;go_wp2_with (first
  |(with_reducible refine Qx rfl (.tmp 4) (.tmp 20) rfl (w.heap.size+1) rfl ⟨1,x,⟨#[]⟩⟩ rfl zeroC Z4.out ?_;intro w5 hz5 ht5)
  |fail)
 exact bodyPost_ret (Qcf rfl _ _ ⟨1,x,⟨#[]⟩⟩ rfl hz5) rfl ⟨QU T4.out ht5 (by omega),rfl,In.Turn.rd ht5 R4.out (by omega) (by omega),B3.out.1,B3.out.2⟩
theorem QiA(b g:Nat)(bs:List Int)(w:World)(h:Rd w b g bs)(hg:g<w.heap.size)(hb:Oct.IsB bs)(hl:bs.length≤100000000)(ho:oneB bs=none) :
  Calls Tryz.prog 239 #[.agg #[.func (.func 98) #[] #[],.func (.func 99) #[] #[],.func (.func 100) #[] #[],.func (.func 101) #[] #[],.func (.func 102) #[] #[],.func (.func 103) #[] #[]],.pointer (some ⟨b,0,none⟩)] w (CellX b g 2 w none):=by
 have hbl:=rd_lt h;obtain⟨W2,hW2⟩:∃V,(w.alloc (.cells #[.func (.func 98) #[] #[],.func (.func 99) #[] #[],.func (.func 100) #[] #[],.func (.func 101) #[] #[],.func (.func 102) #[] #[],.func (.func 103) #[] #[]] 108)).alloc (.cells #[.int .i64 0,.int .i64 0,.string ⟨#[]⟩] 24)=V:=⟨_,rfl⟩;have ht2:Turn w W2 nowhere:=by rw[←hW2];exact(Turn.alloc w _ nowhere).trans (Turn.alloc _ _ nowhere) (fun _ _ h=>h)
 have hz2:CB W2 (w.heap.size+1) zeroC:=by rw[←hW2];have h:=CB.new (w.alloc (.cells #[.func (.func 98) #[] #[],.func (.func 99) #[] #[],.func (.func 100) #[] #[],.func (.func 101) #[] #[],.func (.func 102) #[] #[],.func (.func 103) #[] #[]] 108)) zeroC;rw[World.size_alloc]at h;exact h
 have hf:W2.cell? ⟨w.heap.size,3,none⟩=some (.func (.func 101) #[] #[]):=by rw[←hW2];simp[go_sem]
 have h1:=Qjs b g bs W2 (In.Turn.rd ht2 h id id) hb hl;rw[ho]at h1;have H1:=hid h1;have HW:=hid hW2;have HT2:=hid ht2;have HZ2:=hid hz2;have hne:w.heap.size+1≠b:=by omega
 clear hW2 ht2 hz2 h1 h hb hl ho;go_enter Tryz.func239,Tryz.ntmps239
 go_upto_region 1 with (fail)
 rw[HW.out];go_wp2_with fail
 refine H1.out.mono ?_;rintro e w3 ⟨ht3,v,er,r,rfl,hr3,hb3,hl3,he⟩;have T3:=hid ((HT2.out.mono (fun _ _ e=>e.elim):Turn w W2 (At b)).trans ht3 (fun _ _ h=>h));have Z3:Hid (CB w3 (w.heap.size+1) zeroC):=hid (Qk HZ2.out ht3 hne);have q0:(er != 0)=true:=bne_iff_ne.2 he;have R3:=hid hr3;have B3:=hid (And.intro hb3 hl3);clear ht3 hr3 hb3 hl3 he hf H1 HW HT2 HZ2;dsimp only;go_wp2_with (first
  |(with_reducible refine Qx rfl (.tmp 4) (.tmp 16) rfl (w.heap.size+1) rfl zeroC rfl zeroC Z3.out ?_;intro w4 hz4 ht4)
  |fail)
 refine bodyPost_ret (Qcf rfl _ _ zeroC rfl hz4) rfl ⟨QU T3.out ht4 (by omega),zeroC,r,rfl,In.Turn.rd ht4 R3.out (by omega) (by omega),B3.out.1,B3.out.2,fun hh=>?_⟩;have h1:=hh.k;have h2:zeroC.k=0:=rfl;omega
theorem QeC(x:Int)(h0:0≤x)(h1:x<9223372036854775808)(b g:Nat)(bs rest:List Int)(w:World)(h:Rd w b g bs)(hg:g<w.heap.size)(hb:Oct.IsB bs)(hl:bs.length≤100000000)(ho:oneB bs=some (.int .u64 x,rest)) :
  Calls Tryz.prog 239 #[.agg #[.func (.func 98) #[] #[],.func (.func 99) #[] #[],.func (.func 100) #[] #[],.func (.func 101) #[] #[],.func (.func 102) #[] #[],.func (.func 103) #[] #[]],.pointer (some ⟨b,0,none⟩)] w fun e w'=>Turn w w' (At b)∧e=.returned (.agg #[.int .i64 (⟨2,x,⟨#[]⟩⟩:Cel).k,.int .i64 (⟨2,x,⟨#[]⟩⟩:Cel).n,.string (⟨2,x,⟨#[]⟩⟩:Cel).s])∧Rd w' b g rest∧Oct.IsB rest∧rest.length≤100000000:=by
 have hbl:=rd_lt h;have HCC:=hid (fun W=>Qng x h0 h1 W);obtain⟨W2,hW2⟩:∃V,(w.alloc (.cells #[.func (.func 98) #[] #[],.func (.func 99) #[] #[],.func (.func 100) #[] #[],.func (.func 101) #[] #[],.func (.func 102) #[] #[],.func (.func 103) #[] #[]] 108)).alloc (.cells #[.int .i64 0,.int .i64 0,.string ⟨#[]⟩] 24)=V:=⟨_,rfl⟩;have ht2:Turn w W2 nowhere:=by rw[←hW2];exact(Turn.alloc w _ nowhere).trans (Turn.alloc _ _ nowhere) (fun _ _ h=>h)
 have hz2:CB W2 (w.heap.size+1) zeroC:=by rw[←hW2];have h:=CB.new (w.alloc (.cells #[.func (.func 98) #[] #[],.func (.func 99) #[] #[],.func (.func 100) #[] #[],.func (.func 101) #[] #[],.func (.func 102) #[] #[],.func (.func 103) #[] #[]] 108)) zeroC;rw[World.size_alloc]at h;exact h
 have hf:W2.cell? ⟨w.heap.size,3,none⟩=some (.func (.func 101) #[] #[]):=by rw[←hW2];simp[go_sem]
 have hf1:W2.cell? ⟨w.heap.size,1,none⟩=some (.func (.func 99) #[] #[]):=by rw[←hW2];simp[go_sem]
 have h1:=Qjs b g bs W2 (In.Turn.rd ht2 h id id) hb hl;rw[ho]at h1;have H1:=hid h1;have HW:=hid hW2;have HT2:=hid ht2;have HZ2:=hid hz2;have HF1:=hid hf1;have hne:w.heap.size+1≠b:=by omega
 clear hW2 ht2 hz2 h1 h hb hl ho hf1;go_enter Tryz.func239,Tryz.ntmps239
 go_upto_region 1 with (fail)
 rw[HW.out];go_wp2_with fail
 refine H1.out.mono ?_;rintro e w3 ⟨ht3,v,er,r,rfl,hr3,hb3,hl3,he,hv,hr⟩;subst he hv hr;have T3:=hid ((HT2.out.mono (fun _ _ e=>e.elim):Turn w W2 (At b)).trans ht3 (fun _ _ h=>h));have Z3:Hid (CB w3 (w.heap.size+1) zeroC):=hid (Qk HZ2.out ht3 hne);have f1:=ht3.cell HF1.out (by show ¬w.heap.size=b;omega);have R3:=hid hr3;have B3:=hid (And.intro hb3 hl3);clear ht3 hr3 hb3 hl3 hf H1 HW HT2 HZ2 HF1;dsimp only;go_wp2_with fail
 refine(HCC.out _).mono ?_;rintro e w4 ⟨rfl,hg4⟩;have T4:=hid (T3.out.trans (Pk.Qc hg4) (fun _ _ e=>e.elim));have Z4:=hid (Z3.out.old hg4);have R4:=hid (In.Turn.rd (Pk.Qc hg4) R3.out id id);clear hg4 T3 Z3 R3 f1 HCC;dsimp only;go_wp2_with (first
  |(with_reducible refine Qx rfl (.tmp 4) (.tmp 20) rfl (w.heap.size+1) rfl ⟨2,x,⟨#[]⟩⟩ rfl zeroC Z4.out ?_;intro w5 hz5 ht5)
  |fail)
 exact bodyPost_ret (Qcf rfl _ _ ⟨2,x,⟨#[]⟩⟩ rfl hz5) rfl ⟨QU T4.out ht5 (by omega),rfl,In.Turn.rd ht5 R4.out (by omega) (by omega),B3.out.1,B3.out.2⟩
theorem QiO(cb:Nat)(b g:Nat)(bs:List Int)(w:World)(h:Rd w b g bs)(hg:g<w.heap.size)(hb:Oct.IsB bs)(hl:bs.length≤100000000)(ho:oneT bs=none) :
  Calls Tryz.prog 243 #[.agg #[.func (.func 105) #[] #[],.func (.func 106) #[] #[],.func (.func 107) #[] #[],.func (.func 108) #[] #[],.func (.func 109) #[] #[],.func (.func 146) #[] #[.pointer (some ⟨cb,0,none⟩)]],.pointer (some ⟨b,0,none⟩)] w (CellX b g 3 w none):=by
 have hbl:=rd_lt h;obtain⟨W2,hW2⟩:∃V,(w.alloc (.cells #[.func (.func 105) #[] #[],.func (.func 106) #[] #[],.func (.func 107) #[] #[],.func (.func 108) #[] #[],.func (.func 109) #[] #[],.func (.func 146) #[] #[.pointer (some ⟨cb,0,none⟩)]] 117)).alloc (.cells #[.int .i64 0,.int .i64 0,.string ⟨#[]⟩] 24)=V:=⟨_,rfl⟩;have ht2:Turn w W2 nowhere:=by rw[←hW2];exact(Turn.alloc w _ nowhere).trans (Turn.alloc _ _ nowhere) (fun _ _ h=>h)
 have hz2:CB W2 (w.heap.size+1) zeroC:=by rw[←hW2];have h:=CB.new (w.alloc (.cells #[.func (.func 105) #[] #[],.func (.func 106) #[] #[],.func (.func 107) #[] #[],.func (.func 108) #[] #[],.func (.func 109) #[] #[],.func (.func 146) #[] #[.pointer (some ⟨cb,0,none⟩)]] 117)) zeroC;rw[World.size_alloc]at h;exact h
 have hf:W2.cell? ⟨w.heap.size,3,none⟩=some (.func (.func 108) #[] #[]):=by rw[←hW2];simp[go_sem]
 have h1:=Qfz b g bs W2 (In.Turn.rd ht2 h id id) hb hl;rw[ho]at h1;have H1:=hid h1;have HW:=hid hW2;have HT2:=hid ht2;have HZ2:=hid hz2;have hne:w.heap.size+1≠b:=by omega
 clear hW2 ht2 hz2 h1 h hb hl ho;go_enter Tryz.func243,Tryz.ntmps243
 go_upto_region 1 with (fail)
 rw[HW.out];go_wp2_with fail
 refine H1.out.mono ?_;rintro e w3 ⟨ht3,v,er,r,rfl,hr3,hb3,hl3,he⟩;have T3:=hid ((HT2.out.mono (fun _ _ e=>e.elim):Turn w W2 (At b)).trans ht3 (fun _ _ h=>h));have Z3:Hid (CB w3 (w.heap.size+1) zeroC):=hid (Qk HZ2.out ht3 hne);have q0:(er != 0)=true:=bne_iff_ne.2 he;have R3:=hid hr3;have B3:=hid (And.intro hb3 hl3);clear ht3 hr3 hb3 hl3 he hf H1 HW HT2 HZ2;dsimp only;go_wp2_with (first
  |(with_reducible refine Qx rfl (.tmp 4) (.tmp 16) rfl (w.heap.size+1) rfl zeroC rfl zeroC Z3.out ?_;intro w4 hz4 ht4)
  |fail)
 refine bodyPost_ret (Qcf rfl _ _ zeroC rfl hz4) rfl ⟨QU T3.out ht4 (by omega),zeroC,r,rfl,In.Turn.rd ht4 R3.out (by omega) (by omega),B3.out.1,B3.out.2,fun hh=>?_⟩;have h1:=hh.k;have h2:zeroC.k=0:=rfl;omega
theorem Qh8(cb:Nat)(x:ByteArray)(b g:Nat)(bs rest:List Int)(w:World)(h:Rd w b g bs)(hg:g<w.heap.size)(hb:Oct.IsB bs)(hl:bs.length≤100000000)(ho:oneT bs=some (.string x,rest)) :
  Calls Tryz.prog 243 #[.agg #[.func (.func 105) #[] #[],.func (.func 106) #[] #[],.func (.func 107) #[] #[],.func (.func 108) #[] #[],.func (.func 109) #[] #[],.func (.func 146) #[] #[.pointer (some ⟨cb,0,none⟩)]],.pointer (some ⟨b,0,none⟩)] w fun e w'=>Turn w w' (At b)∧e=.returned (.agg #[.int .i64 (⟨3,0,x⟩:Cel).k,.int .i64 (⟨3,0,x⟩:Cel).n,.string (⟨3,0,x⟩:Cel).s])∧Rd w' b g rest∧Oct.IsB rest∧rest.length≤100000000:=by
 have hbl:=rd_lt h;have HCC:=hid (fun W=>Qmd x W);obtain⟨W2,hW2⟩:∃V,(w.alloc (.cells #[.func (.func 105) #[] #[],.func (.func 106) #[] #[],.func (.func 107) #[] #[],.func (.func 108) #[] #[],.func (.func 109) #[] #[],.func (.func 146) #[] #[.pointer (some ⟨cb,0,none⟩)]] 117)).alloc (.cells #[.int .i64 0,.int .i64 0,.string ⟨#[]⟩] 24)=V:=⟨_,rfl⟩;have ht2:Turn w W2 nowhere:=by rw[←hW2];exact(Turn.alloc w _ nowhere).trans (Turn.alloc _ _ nowhere) (fun _ _ h=>h)
 have hz2:CB W2 (w.heap.size+1) zeroC:=by rw[←hW2];have h:=CB.new (w.alloc (.cells #[.func (.func 105) #[] #[],.func (.func 106) #[] #[],.func (.func 107) #[] #[],.func (.func 108) #[] #[],.func (.func 109) #[] #[],.func (.func 146) #[] #[.pointer (some ⟨cb,0,none⟩)]] 117)) zeroC;rw[World.size_alloc]at h;exact h
 have hf:W2.cell? ⟨w.heap.size,3,none⟩=some (.func (.func 108) #[] #[]):=by rw[←hW2];simp[go_sem]
 have hf1:W2.cell? ⟨w.heap.size,1,none⟩=some (.func (.func 106) #[] #[]):=by rw[←hW2];simp[go_sem]
 have h1:=Qfz b g bs W2 (In.Turn.rd ht2 h id id) hb hl;rw[ho]at h1;have H1:=hid h1;have HW:=hid hW2;have HT2:=hid ht2;have HZ2:=hid hz2;have HF1:=hid hf1;have hne:w.heap.size+1≠b:=by omega
 clear hW2 ht2 hz2 h1 h hb hl ho hf1;go_enter Tryz.func243,Tryz.ntmps243
 go_upto_region 1 with (fail)
 rw[HW.out];go_wp2_with fail
 refine H1.out.mono ?_;rintro e w3 ⟨ht3,v,er,r,rfl,hr3,hb3,hl3,he,hv,hr⟩;subst he hv hr;have T3:=hid ((HT2.out.mono (fun _ _ e=>e.elim):Turn w W2 (At b)).trans ht3 (fun _ _ h=>h));have Z3:Hid (CB w3 (w.heap.size+1) zeroC):=hid (Qk HZ2.out ht3 hne);have f1:=ht3.cell HF1.out (by show ¬w.heap.size=b;omega);have R3:=hid hr3;have B3:=hid (And.intro hb3 hl3);clear ht3 hr3 hb3 hl3 hf H1 HW HT2 HZ2 HF1;dsimp only;go_wp2_with fail
 refine(HCC.out _).mono ?_;rintro e w4 ⟨rfl,hg4⟩;have T4:=hid (T3.out.trans (Pk.Qc hg4) (fun _ _ e=>e.elim));have Z4:=hid (Z3.out.old hg4);have R4:=hid (In.Turn.rd (Pk.Qc hg4) R3.out id id);clear hg4 T3 Z3 R3 f1 HCC;dsimp only;go_wp2_with (first
  |(with_reducible refine Qx rfl (.tmp 4) (.tmp 20) rfl (w.heap.size+1) rfl ⟨3,0,x⟩ rfl zeroC Z4.out ?_;intro w5 hz5 ht5)
  |fail)
 exact bodyPost_ret (Qcf rfl _ _ ⟨3,0,x⟩ rfl hz5) rfl ⟨QU T4.out ht5 (by omega),rfl,In.Turn.rd ht5 R4.out (by omega) (by omega),B3.out.1,B3.out.2⟩
theorem QhG(cb b g:Nat)(bs:List Int)(w:World)(h:Rd w b g bs)(hg:g<w.heap.size)(hb:Oct.IsB bs)(hl:bs.length≤100000000) :
  Calls Tryz.prog 235 #[.agg #[.func (.func 89) #[] #[],.func (.func 90) #[] #[],.func (.func 91) #[] #[],.func (.func 93) #[] #[],.func (.func 95) #[] #[],.func (.func 140) #[] #[.pointer (some ⟨cb,0,none⟩)]],.pointer (some ⟨b,0,none⟩)] w (CellX b g 1 w (readCell 1 bs)):=by
 by_cases h8:bs.length<8
 ·have hr:readCell 1 bs=none:=by unfold readCell;rw[if_pos rfl,if_pos h8]
  rw[hr];exact QiP cb b g bs w h hg hb hl (if_pos h8)
 ·have hr:readCell 1 bs=some (⟨1,sg (ofB (bs.take 8)),⟨#[]⟩⟩,bs.drop 8):=by unfold readCell;rw[if_pos rfl,if_neg h8]
  rw[hr];exact(Qik cb (sg (ofB (bs.take 8))) b g bs (bs.drop 8) w h hg hb hl (if_neg h8)).mono fun e w' ⟨h1,h2,h3,h4,h5⟩=>⟨h1,_,_,h2,h3,h4,h5,rfl,rfl⟩
theorem QhC(cb b g:Nat)(bs:List Int)(w:World)(h:Rd w b g bs)(hg:g<w.heap.size)(hb:Oct.IsB bs)(hl:bs.length≤100000000) :
  Calls Tryz.prog 243 #[.agg #[.func (.func 105) #[] #[],.func (.func 106) #[] #[],.func (.func 107) #[] #[],.func (.func 108) #[] #[],.func (.func 109) #[] #[],.func (.func 146) #[] #[.pointer (some ⟨cb,0,none⟩)]],.pointer (some ⟨b,0,none⟩)] w (CellX b g 3 w (readCell 3 bs)):=by
 cases hs:Tx.readS bs with
 |none=>
  have hr:readCell 3 bs=none:=by unfold readCell;rw[if_neg (by decide),if_neg (by decide),hs]
  have ho:oneT bs=none:=by unfold oneT;rw[hs]
  rw[hr];exact QiO cb b g bs w h hg hb hl ho
 |some p=>
  obtain⟨s,t⟩:=p;have hr:readCell 3 bs=some (⟨3,0,strOfNums s⟩,t):=by unfold readCell;rw[if_neg (by decide),if_neg (by decide),hs]
  have ho:oneT bs=some (.string (strOfNums s),t):=by unfold oneT;rw[hs]
  rw[hr];exact(Qh8 cb (strOfNums s) b g bs t w h hg hb hl ho).mono fun e w' ⟨h1,h2,h3,h4,h5⟩=>⟨h1,_,_,h2,h3,h4,h5,rfl,rfl⟩
theorem QhM(b g:Nat)(bs:List Int)(w:World)(h:Rd w b g bs)(hg:g<w.heap.size)(hb:Oct.IsB bs)(hl:bs.length≤100000000) :
  Calls Tryz.prog 239 #[.agg #[.func (.func 98) #[] #[],.func (.func 99) #[] #[],.func (.func 100) #[] #[],.func (.func 101) #[] #[],.func (.func 102) #[] #[],.func (.func 103) #[] #[]],.pointer (some ⟨b,0,none⟩)] w (CellX b g 2 w (readCell 2 bs)):=by
 cases bs with
 |nil=>
  have hr:readCell 2 []=none:=rfl;rw[hr];exact QiA b g [] w h hg hb hl rfl
 |cons v t=>
  have hv:=hb v (List.mem_cons_self ..);by_cases h1:1<v
  ·have hr:readCell 2 (v :: t)=none:=by unfold readCell;rw[if_neg (by decide),if_pos rfl];exact if_pos h1
   rw[hr];refine(QeC v hv.1 (by omega) b g (v :: t) t w h hg hb hl rfl).mono fun e w' ⟨q1,q2,q3,q4,q5⟩=>⟨q1,_,_,q2,q3,q4,q5,fun hh=>?_⟩
   have:=Qo1 hh;have e:(⟨2,v,⟨#[]⟩⟩:Cel).n=v:=rfl;omega
  ·have hr:readCell 2 (v :: t)=some (⟨2,v,⟨#[]⟩⟩,t):=by unfold readCell;rw[if_neg (by decide),if_pos rfl];exact if_neg h1
   rw[hr];exact(QeC v hv.1 (by omega) b g (v :: t) t w h hg hb hl rfl).mono fun e w' ⟨q1,q2,q3,q4,q5⟩=>⟨q1,_,_,q2,q3,q4,q5,rfl,rfl⟩
end Sg
namespace Sg
open Go.RowKit Go.Joins Zn Zr Dv
theorem Qe3{P:Program}{fn:Func}{p u v:Tmp}{ty:TypeId}(h:fn.results=#[.cell p ty,.tmp u,.tmp v])(tmps:Array Value)(w:World)(g:Nat)(t:TypeId)(cs:Array Value)(fr:Nat×Nat)(d:TypeDesc)
  (hp:tmps.getD p undef=.pointer (some ⟨g,0,none⟩)) (hg:w.heap[g]?=some (.cells cs t fr))
  (hu:P.underlying ty=some d) (hd:(match d with | .struct _ | .array _ _=>true|_=>false)=true) (hi:(P.info? ty).map (·.size)=some cs.size) :
  (results fn tmps).run P w=.ok (.tuple #[.agg cs,tmps.getD u undef,tmps.getD v undef]) w:=by
 have e:(results fn tmps).run P w=((asAddr (tmps.getD p undef)).run P w).andThen fun a w₁=>((loadVar ty a).run P w₁).andThen fun x w₂=>.ok (.tuple #[x,tmps.getD u undef,tmps.getD v undef]) w₂:=by
  simp only[results,h];simp[Sem.run_bind,Result.andThen]
 rw[e,hp];simp[asAddr,Result.andThen,run_loadVar_row w g t ty cs fr d hg hu hd hi]
theorem QdE{P:Program}{fn:Func}{p u v:Tmp}{ty:TypeId}(h:fn.results=#[.tmp u,.cell p ty,.tmp v])(tmps:Array Value)(w:World)(g:Nat)(t:TypeId)(cs:Array Value)(fr:Nat×Nat)(d:TypeDesc)
  (hp:tmps.getD p undef=.pointer (some ⟨g,0,none⟩)) (hg:w.heap[g]?=some (.cells cs t fr))
  (hu:P.underlying ty=some d) (hd:(match d with | .struct _ | .array _ _=>true|_=>false)=true) (hi:(P.info? ty).map (·.size)=some cs.size) :
  (results fn tmps).run P w=.ok (.tuple #[tmps.getD u undef,.agg cs,tmps.getD v undef]) w:=by
 have e:(results fn tmps).run P w=((asAddr (tmps.getD p undef)).run P w).andThen fun a w₁=>((loadVar ty a).run P w₁).andThen fun x w₂=>.ok (.tuple #[tmps.getD u undef,x,tmps.getD v undef]) w₂:=by
  simp only[results,h];simp[Sem.run_bind,Result.andThen]
 rw[e,hp];simp[asAddr,Result.andThen,run_loadVar_row w g t ty cs fr d hg hu hd hi]
structure Hd where
 kind:Int
 a:Option Addr
 n:Nat
 c:Nat
 z:Zon
abbrev Hd.cells(h:Hd):Array Value:=#[.int .i64 h.kind,.slice h.a h.n h.c,.int .i64 h.z.cnt,.int .i64 h.z.nul,.int .i64 h.z.min.k,.int .i64 h.z.min.n,.string h.z.min.s,.int .i64 h.z.max.k,.int .i64 h.z.max.n,.string h.z.max.s]
def HB(w:World)(g:Nat)(h:Hd):Prop:=w.heap[g]?=some (.cells #[.int .i64 h.kind,.slice h.a h.n h.c,.int .i64 h.z.cnt,.int .i64 h.z.nul,.int .i64 h.z.min.k,.int .i64 h.z.min.n,.string h.z.min.s,.int .i64 h.z.max.k,.int .i64 h.z.max.n,.string h.z.max.s] 69 (0,0))
theorem QhI:(Tryz.prog.info? 69).map (·.size)=some 10:=by kernel_rfl
theorem HB.old{w w':World}{g:Nat}{h:Hd}(k:HB w g h)(t:Turn w w' nowhere):HB w' g h:=Qae k t.grown
theorem HB.turn{w w':World}{g b:Nat}{h:Hd}(k:HB w g h)(t:Turn w w' (·=b))(hne:g≠b):HB w' g h:=Qk k t hne
theorem HB.cellsAt{w:World}{g:Nat}{h:Hd}(k:HB w g h):w.cell? ⟨g,0,none⟩=some (.int .i64 h.kind)∧w.cell? ⟨g,1,none⟩=some (.slice h.a h.n h.c)∧w.cell? ⟨g,2,none⟩=some (.int .i64 h.z.cnt)∧w.cell? ⟨g,3,none⟩=some (.int .i64 h.z.nul) ∧
  w.cell? ⟨g,4,none⟩=some (.int .i64 h.z.min.k)∧w.cell? ⟨g,5,none⟩=some (.int .i64 h.z.min.n)∧w.cell? ⟨g,6,none⟩=some (.string h.z.min.s)∧w.cell? ⟨g,7,none⟩=some (.int .i64 h.z.max.k)∧w.cell? ⟨g,8,none⟩=some (.int .i64 h.z.max.n)∧w.cell? ⟨g,9,none⟩=some (.string h.z.max.s):=by
 unfold HB at k;refine⟨?_,?_,?_,?_,?_,?_,?_,?_,?_,?_⟩ <;> (rw[cell_of_row _ _ _ _ _ _ k];rfl)
theorem HB.froz{w:World}{g:Nat}{h:Hd}(k:HB w g h)(j:Nat):w.frozen? ⟨g,j,none⟩=false:=by
 unfold HB at k;simp[World.frozen?,k]
theorem QK{w:World}{ops:Array Oper}{rest:List Oper}{o:Oper}{a:Act}{Q:Exit→Act→World→Prop}(hgd:o.guard=none)(x y:Operand)(ho:o.op=.store 69 x y)
  (g:Nat) (hx:a.eval x=.pointer (some ⟨g,0,none⟩)) (h:Hd) (hy:a.eval y=.agg #[.int .i64 h.kind,.slice h.a h.n h.c,.int .i64 h.z.cnt,.int .i64 h.z.nul,.int .i64 h.z.min.k,.int .i64 h.z.min.n,.string h.z.min.s,.int .i64 h.z.max.k,.int .i64 h.z.max.n,.string h.z.max.s]) (q:Hd) (hg:HB w g q)
  (hh:∀w',HB w' g h→Turn w w' (·=g)→wpList Tryz.prog ops Q rest (a.put o.dst undef) w'):wpList Tryz.prog ops Q (o :: rest) a w:=by
 refine wpList_store_row hgd _ x y ho g _ hx hy _ _ hg QhI rfl (by simp[Value.oneCell']) ?_;exact hh _ (setRow_heap w g _ _ _ _ hg) ⟨rfl,rfl,rfl,by simp[World.setRow],fun k _ hk=>setRow_other w g k _ hk⟩
theorem QO{fn:Func}{p u v:Tmp}(hf:fn.results=#[.cell p 69,.tmp u,.tmp v])(tmps:Array Value)(w:World)(g:Nat)(h:Hd)(x y:Value)(hp:tmps.getD p undef=.pointer (some ⟨g,0,none⟩))
  (hg:HB w g h) (hx:tmps.getD u undef=x) (hy:tmps.getD v undef=y):(results fn tmps).run Tryz.prog w=.ok (.tuple #[.agg #[.int .i64 h.kind,.slice h.a h.n h.c,.int .i64 h.z.cnt,.int .i64 h.z.nul,.int .i64 h.z.min.k,.int .i64 h.z.min.n,.string h.z.min.s,.int .i64 h.z.max.k,.int .i64 h.z.max.n,.string h.z.max.s],x,y]) w:=by
 rw[←hx,←hy];exact Qe3 hf tmps w g _ _ _ _ hp hg Tryz.underlying69 rfl QhI
def zeroH:Hd:=⟨0,none,0,0,zeroZ⟩
theorem QM(h:Hd)(m:Int)(hm:h.z.cnt-h.z.nul=m)(hw:-9223372036854775808≤m∧m≤9223372036854775807)(w:World) :
  Calls Tryz.prog 61 #[.agg #[.int .i64 h.kind,.slice h.a h.n h.c,.int .i64 h.z.cnt,.int .i64 h.z.nul,.int .i64 h.z.min.k,.int .i64 h.z.min.n,.string h.z.min.s,.int .i64 h.z.max.k,.int .i64 h.z.max.n,.string h.z.max.s]] w fun e w'=>e=.returned (.int .i64 m)∧w.grownBy w' none:=by
 have HG:=hid (Qb w (.cells #[.int .i64 h.kind,.slice h.a h.n h.c,.int .i64 h.z.cnt,.int .i64 h.z.nul,.int .i64 h.z.min.k,.int .i64 h.z.min.n,.string h.z.min.s,.int .i64 h.z.max.k,.int .i64 h.z.max.n,.string h.z.max.s] 69));have hwr:IntKind.i64.wrap m=m:=IntWalk.i64_in _ (by omega);have HW:=hid hwr;have HM:=hid hm;have e1:IntKind.i64.wrap (h.z.cnt-h.z.nul)=m:=by rw[hm];exact hwr
 clear hm hwr;go_enter Tryz.func61,Tryz.ntmps61
 go_wp2;go_ret
 exact⟨rfl,HG.out⟩
end Sg
namespace Sg
open Go.RowKit Go.Joins Zn Zr Dv
open Oct (Rd)
open In (At)
open Nu (getN cnt resN)
theorem Qag(l:List Int)(hl:Bs.IsB l)(hn:l.length≤1000000000)(W:World):∃cap W',(convert 9 45 (.string (strOfNums l))).run Tryz.prog W=.ok (.slice (some ⟨W.heap.size,0,none⟩) l.length cap) W'∧Bs.Seg W' (some ⟨W.heap.size,0,none⟩) l.length cap l∧Turn W W' nowhere:=by
 obtain⟨cap,W',h1,h2,h3,h4,h5⟩:=Qlo l hl hn W;refine⟨cap,W',h1,⟨rfl,h4,h5,(fun e=>by cases e),fun ad had j u hu=>?_⟩,h3⟩;cases had
 rw[Addr.add_lit];rw[List.getElem?_map]at hu;cases hx:l[j]? with
 |none=>rw[hx]at hu;cases hu
 |some x=>
  rw[hx]at hu;have:=(h2 j x hx).1;rw[Option.map_some]at hu;rw[←Option.some.inj hu];exact this
theorem Qa3(k0:Int)(t:List Int)(h:0≤k0∧k0<256)(W:World):(Instr.index 9 (.string (strOfNums (k0 :: t))) (.int .i64 0)).run Tryz.prog W=.ok (.int .u8 k0) W:=by
 have hs:(strOfNums (k0 :: t)).size=t.length+1:=by rw[strOfNums_size];rfl
 rw[run_index_string _ _ _ _ _ Tryz.underlying9,dif_pos ⟨by omega,by omega⟩];have e:(((strOfNums (k0 :: t))[(0:Int).toNat]'(by rw[hs];exact Nat.zero_lt_succ _)).toNat:Int)=k0:=by
  show((UInt8.ofNat k0.toNat).toNat:Int)=k0
  rw[UInt8.toNat_ofNat'];omega
 rw[e]
def HeadNo(w:World)(e:Ending)(w':World):Prop:=e=.returned (.tuple #[.agg #[.int .i64 0,.slice none 0 0,.int .i64 0,.int .i64 0,.int .i64 0,.int .i64 0,.string ⟨#[]⟩,.int .i64 0,.int .i64 0,.string ⟨#[]⟩],.pointer none,.int .i64 4])∧Turn w w' nowhere
def HeadYes(w:World)(k:Int)(nl:List Bool)(m:Nat)(z:Zon)(rest:List Int)(e:Ending)(w':World):Prop:=
 ∃a c b g,e=.returned (.tuple #[.agg #[.int .i64 k,.slice a m c,.int .i64 z.cnt,.int .i64 z.nul,.int .i64 z.min.k,.int .i64 z.min.n,.string z.min.s,.int .i64 z.max.k,.int .i64 z.max.n,.string z.max.s],.pointer (some ⟨b,0,none⟩),.int .i64 0])∧Bl.Seg w' a m c nl∧Rd w' b g rest∧Oct.IsB rest∧rest.length≤100000000∧w.heap.size≤b∧g<w'.heap.size∧(∀ad,a=some ad→m≠0→ad.block≠b)∧Turn w w' nowhere
theorem Qbu{w:World}{n c:Nat}{a:Option Addr}{l:List Bool}(hs:Bl.Seg w a n c l):∀ad,a=some ad→n≠0→ad.block<w.heap.size:=by
 intro ad had hn;have hl:=hs.len;obtain⟨x,hx⟩:∃x,l[0]?=some x:=⟨_,List.getElem?_eq_getElem (by omega)⟩;have h:=hs.at_ ad had 0 (Bl.encW x) (by rw[List.getElem?_map,hx];rfl);have h2:=World.block_lt_of_cell? w _ h;have e:(ad.add 0).block=ad.block:=by unfold Addr.add;split <;> rfl
 rwa [e]at h2
theorem HB.set1{w:World}{g:Nat}{h:Hd}(k:HB w g h)(a:Option Addr)(n c:Nat):HB (w.setCell ⟨g,1,none⟩ (.slice a n c)) g ⟨h.kind,a,n,c,h.z⟩:=Go.heap_setCell_same w g 1 _ _ (.slice a n c) k
theorem HB.setMin{w:World}{g:Nat}{h:Hd}(k:HB w g h)(c:Cel):HB (((w.setCell ⟨g,4,none⟩ (.int .i64 c.k)).setCell ⟨g,5,none⟩ (.int .i64 c.n)).setCell ⟨g,6,none⟩ (.string c.s)) g ⟨h.kind,h.a,h.n,h.c,⟨h.z.cnt,h.z.nul,c,h.z.max⟩⟩:=
 Go.heap_setCell_same _ g 6 _ _ (.string c.s) (Go.heap_setCell_same _ g 5 _ _ (.int .i64 c.n) (Go.heap_setCell_same w g 4 _ _ (.int .i64 c.k) k))
theorem HB.setMax{w:World}{g:Nat}{h:Hd}(k:HB w g h)(c:Cel):HB (((w.setCell ⟨g,7,none⟩ (.int .i64 c.k)).setCell ⟨g,8,none⟩ (.int .i64 c.n)).setCell ⟨g,9,none⟩ (.string c.s)) g ⟨h.kind,h.a,h.n,h.c,⟨h.z.cnt,h.z.nul,h.z.min,c⟩⟩:=
 Go.heap_setCell_same _ g 9 _ _ (.string c.s) (Go.heap_setCell_same _ g 8 _ _ (.int .i64 c.n) (Go.heap_setCell_same w g 7 _ _ (.int .i64 c.k) k))
theorem HB.set2{w:World}{g:Nat}{h:Hd}(k:HB w g h)(x:Int):HB (w.setCell ⟨g,2,none⟩ (.int .i64 x)) g ⟨h.kind,h.a,h.n,h.c,⟨x,h.z.nul,h.z.min,h.z.max⟩⟩:=Go.heap_setCell_same w g 2 _ _ (.int .i64 x) k
theorem HB.set3{w:World}{g:Nat}{h:Hd}(k:HB w g h)(x:Int):HB (w.setCell ⟨g,3,none⟩ (.int .i64 x)) g ⟨h.kind,h.a,h.n,h.c,⟨h.z.cnt,x,h.z.min,h.z.max⟩⟩:=Go.heap_setCell_same w g 3 _ _ (.int .i64 x) k
theorem HB.setZone{w:World}{g:Nat}{h:Hd}(k:HB w g h)(z:Zon):HB ((((((((w.setCell ⟨g,2,none⟩ (.int .i64 z.cnt)).setCell ⟨g,3,none⟩ (.int .i64 z.nul)).setCell ⟨g,4,none⟩ (.int .i64 z.min.k)).setCell ⟨g,5,none⟩ (.int .i64 z.min.n)).setCell ⟨g,6,none⟩ (.string z.min.s)).setCell ⟨g,7,none⟩ (.int .i64 z.max.k)).setCell ⟨g,8,none⟩ (.int .i64 z.max.n)).setCell ⟨g,9,none⟩ (.string z.max.s)) g ⟨h.kind,h.a,h.n,h.c,z⟩:=by
 obtain⟨W1,e1⟩:∃W',W'=w.setCell ⟨g,2,none⟩ (.int .i64 z.cnt):=⟨_,rfl⟩;have h1:=k.set2 z.cnt;rw[←e1]at h1 ⊢;obtain⟨W2,e2⟩:∃W',W'=W1.setCell ⟨g,3,none⟩ (.int .i64 z.nul):=⟨_,rfl⟩;have h2:=h1.set3 z.nul;rw[←e2]at h2 ⊢;have h3:=h2.setMin z.min;obtain⟨W3,e3⟩:∃W',W'=((W2.setCell ⟨g,4,none⟩ (.int .i64 z.min.k)).setCell ⟨g,5,none⟩ (.int .i64 z.min.n)).setCell ⟨g,6,none⟩ (.string z.min.s):=⟨_,rfl⟩;rw[←e3]at h3 ⊢;exact h3.setMax z.max
theorem Qdz(w:World)(g:Nat)(z:Zon):Turn w ((((((((w.setCell ⟨g,2,none⟩ (.int .i64 z.cnt)).setCell ⟨g,3,none⟩ (.int .i64 z.nul)).setCell ⟨g,4,none⟩ (.int .i64 z.min.k)).setCell ⟨g,5,none⟩ (.int .i64 z.min.n)).setCell ⟨g,6,none⟩ (.string z.min.s)).setCell ⟨g,7,none⟩ (.int .i64 z.max.k)).setCell ⟨g,8,none⟩ (.int .i64 z.max.n)).setCell ⟨g,9,none⟩ (.string z.max.s)) (·=g):=by
 have s1:∀(W:World) (i:Nat) (x:Value),Turn W (W.setCell ⟨g,i,none⟩ x) (·=g):=fun W i x=>Turn.setCell W _ _ (S:=(·=g)) rfl
 exact(((((((s1 _ _ _).trans (s1 _ _ _) (fun _ _ h=>h)).trans (s1 _ _ _) (fun _ _ h=>h)).trans (s1 _ _ _) (fun _ _ h=>h)).trans (s1 _ _ _) (fun _ _ h=>h)).trans (s1 _ _ _) (fun _ _ h=>h)).trans (s1 _ _ _) (fun _ _ h=>h)).trans (s1 _ _ _) (fun _ _ h=>h)
theorem QaU{w w':World}{g n c:Nat}{a:Option Addr}{l:List Bool}{h:Hd}(hs:Bl.Seg w a n c l)(hh:HB w g h)(t:Turn w w' (·=g)):Bl.Seg w' a n c l:=by
 refine⟨hs.len,hs.le,hs.cap,hs.nil_,fun ad had j u hu=>t.cell (hs.at_ ad had j u hu) ?_⟩;intro e;have h1:=hs.at_ ad had j u hu;rw[List.getElem?_map]at hu;cases hx:l[j]? with
 |none=>rw[hx]at hu;cases hu
 |some x=>
  rw[hx,Option.map_some]at hu;obtain rfl:=Option.some.inj hu;have hsp:=Zn.Qdp h1;generalize ad.add j=A at h1 e hsp;obtain⟨b0,o0,sp0⟩:=A;replace e:b0=g:=e;replace hsp:sp0=none:=hsp;subst hsp e;unfold HB at hh;rw[cell_of_row _ _ _ _ _ _ hh]at h1
  match o0 with
  |0=>simp[Bl.encW]at h1
  |1=>simp[Bl.encW]at h1
  |2=>simp[Bl.encW]at h1
  |3=>simp[Bl.encW]at h1
  |4=>simp[Bl.encW]at h1
  |5=>simp[Bl.encW]at h1
  |6=>simp[Bl.encW]at h1
  |7=>simp[Bl.encW]at h1
  |8=>simp[Bl.encW]at h1
  |9=>simp[Bl.encW]at h1
  |o+10=>simp[Bl.encW]at h1
theorem Qer(w:World)(g i:Nat)(x:Value):Turn w (w.setCell ⟨g,i,none⟩ x) (·=g):=Turn.setCell w _ _ (S:=(·=g)) rfl
theorem hb_new(w:World):HB (w.alloc (.cells #[.int .i64 0,.slice none 0 0,.int .i64 0,.int .i64 0,.int .i64 0,.int .i64 0,.string ⟨#[]⟩,.int .i64 0,.int .i64 0,.string ⟨#[]⟩] 69)) w.heap.size zeroH:=heap_alloc_new w _
theorem Qim(w:World):Calls Tryz.prog 34 #[.string ⟨#[]⟩] w (HeadNo w):=by
 have hZ:=hid (hb_new w);have HT:=hid (Turn.alloc w (.cells #[.int .i64 0,.slice none 0 0,.int .i64 0,.int .i64 0,.int .i64 0,.int .i64 0,.string ⟨#[]⟩,.int .i64 0,.int .i64 0,.string ⟨#[]⟩] 69) nowhere);go_enter Tryz.func34,Tryz.ntmps34
 go_wp2_with (first
  |(with_reducible refine QK rfl (.tmp 2) (.tmp 20) rfl w.heap.size rfl zeroH rfl zeroH hZ.out ?_;intro w4 hz4 ht4)
  |fail)
 refine bodyPost_ret (QO rfl _ _ _ zeroH _ _ rfl hz4 rfl rfl) rfl ⟨rfl,Pk.Qc (Ql HT.out.grown ht4 (Nat.le_refl _))⟩
theorem Qiz(k0:Int)(t:List Int)(hb:Bs.IsB (k0 :: t))(hk:k0<1∨3<k0)(w:World):Calls Tryz.prog 34 #[.string (strOfNums (k0 :: t))] w (HeadNo w):=by
 have hk0:=hb k0 (List.mem_cons_self ..);have hidx:=Qa3 k0 t hk0;have hwr:IntKind.i64.wrap k0=k0:=IntWalk.i64_in _ (by omega);have hne:(strOfNums (k0 :: t)).toList.isEmpty=false:=by rw[Go.ByteArray.toList_eq];rfl
 have HC:=hid (fun W=>Qgj k0 W hk);have hny:=Qkx;have hZ:=hid (hb_new w);have HT:=hid (Turn.alloc w (.cells #[.int .i64 0,.slice none 0 0,.int .i64 0,.int .i64 0,.int .i64 0,.int .i64 0,.string ⟨#[]⟩,.int .i64 0,.int .i64 0,.string ⟨#[]⟩] 69) nowhere);obtain⟨S,hS⟩:∃S,strOfNums (k0 :: t)=S:=⟨_,rfl⟩;rw[hS]at hidx hne ⊢;clear hS hb hk;go_enter Tryz.func34,Tryz.ntmps34
 go_wp2_with fail
 refine(HC.out _).mono ?_;rintro e w1 ⟨rfl,rfl⟩;go_wp2_with (first
  |(with_reducible refine QK rfl (.tmp 2) (.tmp 20) rfl w.heap.size rfl zeroH rfl zeroH hZ.out ?_;intro w4 hz4 ht4)
  |fail)
 refine bodyPost_ret (QO rfl _ _ _ zeroH _ _ rfl hz4 rfl rfl) rfl ⟨rfl,Pk.Qc (Ql HT.out.grown ht4 (Nat.le_refl _))⟩
theorem Qih(k0:Int)(t:List Int)(hb:Bs.IsB (k0 :: t))(hl:(k0 :: t).length≤100000000)(k1:1≤k0)(k3:k0≤3)(hg:getN t=none)(w:World):Calls Tryz.prog 34 #[.string (strOfNums (k0 :: t))] w (HeadNo w):=by
 have hk0:=hb k0 (List.mem_cons_self ..);have hidx:=Qa3 k0 t hk0;have hwr:IntKind.i64.wrap k0=k0:=IntWalk.i64_in _ (by omega);have hne:(strOfNums (k0 :: t)).toList.isEmpty=false:=by rw[Go.ByteArray.toList_eq];rfl
 have hex1:(strOfNums (k0 :: t)).extract 1 (strOfNums (k0 :: t)).size=strOfNums t:=by
  rw[QX,strOfNums_size,List.drop_succ_cons,List.drop_zero,List.take_of_length_le (by simp)]
 have hsz:0<(strOfNums (k0 :: t)).size:=by rw[strOfNums_size];exact Nat.zero_lt_succ _
 have hsz1:(1:Int)≤((strOfNums (k0 :: t)).size:Int):=by omega
 have HC:=hid (fun W=>QJ k0 W k1 k3);have hZ:=hid (hb_new w);have HT:=hid (Turn.alloc w (.cells #[.int .i64 0,.slice none 0 0,.int .i64 0,.int .i64 0,.int .i64 0,.int .i64 0,.string ⟨#[]⟩,.int .i64 0,.int .i64 0,.string ⟨#[]⟩] 69) nowhere);have hbt:Oct.IsB t:=fun x hx=>hb x (List.mem_cons_of_mem _ hx)
 have hlt:t.length≤100000000:=by rw[List.length_cons]at hl;omega
 obtain⟨S,hS⟩:∃S,strOfNums (k0 :: t)=S:=⟨_,rfl⟩;obtain⟨S1,hS1⟩:∃S1,strOfNums t=S1:=⟨_,rfl⟩;rw[hS]at hidx hne hex1 hsz hsz1 ⊢;rw[hS1]at hex1;have HCV:=hid (fun W=>Qag t hbt (by omega) W);rw[hS1]at HCV;have HBT:=hid hbt;have HGN:=hid (fun a n c W hs=>Nu.QaP (bs:=t) (L:=[]) (z:=0) (E:=4) (m:=0) (by rw[hg];rfl) rfl hbt hlt a n c W hs);clear hS hS1 hb hl hg hbt;go_enter Tryz.func34,Tryz.ntmps34
 go_wp2_with fail
 refine(HC.out _).mono ?_;rintro e w1 ⟨v,rfl,hv,ht1⟩;have hnn:=Qde hv;have hng:=Qby hv;have Z1:=hid (hZ.out.old ht1);have T1:=hid (HT.out.trans ht1 (fun _ _ h=>h));clear hv ht1 hZ HT HC;dsimp only;go_upto_region 4 with (fail)
 clear hnn hng;obtain⟨W3,hW3⟩:∃V,w1.alloc (.cells #[.int .i64 k0,.slice none 0 0,.int .i64 0,.int .i64 0,.int .i64 0,.int .i64 0,.string ⟨#[]⟩,.int .i64 0,.int .i64 0,.string ⟨#[]⟩] 69)=V:=⟨_,rfl⟩;obtain⟨hb3,hhb3⟩:∃g,g=w1.heap.size:=⟨_,rfl⟩;rw[hW3,←hhb3];have H3:Hid (HB W3 hb3 ⟨k0,none,0,0,zeroZ⟩):=hid (by rw[←hW3,hhb3];exact heap_alloc_new w1 _);have T3:Hid (Turn w W3 nowhere):=hid (by rw[←hW3];exact T1.out.trans (Turn.alloc _ _ _) (fun _ _ h=>h));have Z3:Hid (HB W3 w.heap.size zeroH):=hid (by rw[←hW3];exact Z1.out.old (Turn.alloc _ _ _));have hlt3:w.heap.size<hb3:=by have:=QP Z1.out;omega
 clear hW3 hhb3 Z1 T1;obtain⟨cap,w4,hrun,hs4,ht4⟩:=HCV.out W3;have HS4:=hid hs4;have H4:=hid (H3.out.old ht4);have T4:=hid (T3.out.trans ht4 (fun _ _ h=>h));have Z4:=hid (Z3.out.old ht4);clear hs4 ht4 H3 T3 Z3 HCV;go_wp2_with fail
 refine(HGN.out _ _ _ _ HS4.out).mono ?_;rintro e w5 ⟨a5,c5,rfl,hs5,ht5⟩;have T5:=hid (T4.out.trans ht5 (fun _ _ h=>h));have Z5:=hid (Z4.out.old ht5);clear hs5 ht5 T4 Z4 H4 HS4 hrun;dsimp only;go_wp2_with (first
  |(with_reducible refine QK rfl (.tmp 2) (.tmp 35) rfl w.heap.size rfl zeroH rfl zeroH Z5.out ?_;intro w6 hz6 ht6)
  |fail)
 refine bodyPost_ret (QO rfl _ _ _ zeroH _ _ rfl hz6 rfl rfl) rfl ⟨rfl,Pk.Qc (Ql T5.out.grown ht6 (Nat.le_refl _))⟩
theorem Qju(k0:Int)(t r0:List Int)(nl:List Bool)(m:Nat)(hb:Bs.IsB (k0 :: t))(hl:(k0 :: t).length≤100000000)(k1:1≤k0)(k3:k0≤3)(hg:getN t=some (nl,r0))(hm:nl.length=m)(hc:cnt nl=m)(hck:checkE ⟨(m:Int),(m:Int),zeroC,zeroC⟩ k0=0)(w:World) :
  Calls Tryz.prog 34 #[.string (strOfNums (k0 :: t))] w (HeadYes w k0 nl m ⟨(m:Int),(m:Int),zeroC,zeroC⟩ r0):=by
 have hk0:=hb k0 (List.mem_cons_self ..);have hidx:=Qa3 k0 t hk0;have hwr:IntKind.i64.wrap k0=k0:=IntWalk.i64_in _ (by omega);have hne:(strOfNums (k0 :: t)).toList.isEmpty=false:=by rw[Go.ByteArray.toList_eq];rfl
 have hex1:(strOfNums (k0 :: t)).extract 1 (strOfNums (k0 :: t)).size=strOfNums t:=by
  rw[QX,strOfNums_size,List.drop_succ_cons,List.drop_zero,List.take_of_length_le (by simp)]
 have hsz:0<(strOfNums (k0 :: t)).size:=by rw[strOfNums_size];exact Nat.zero_lt_succ _
 have hsz1:(1:Int)≤((strOfNums (k0 :: t)).size:Int):=by omega
 have HC:=hid (fun W=>QJ k0 W k1 k3);have hZ:=hid (hb_new w);have HT:=hid (Turn.alloc w (.cells #[.int .i64 0,.slice none 0 0,.int .i64 0,.int .i64 0,.int .i64 0,.int .i64 0,.string ⟨#[]⟩,.int .i64 0,.int .i64 0,.string ⟨#[]⟩] 69) nowhere);have hbt:Oct.IsB t:=fun x hx=>hb x (List.mem_cons_of_mem _ hx)
 have hlt:t.length≤100000000:=by rw[List.length_cons]at hl;omega
 obtain⟨S,hS⟩:∃S,strOfNums (k0 :: t)=S:=⟨_,rfl⟩;obtain⟨S1,hS1⟩:∃S1,strOfNums t=S1:=⟨_,rfl⟩;rw[hS]at hidx hne hex1 hsz hsz1 ⊢;rw[hS1]at hex1;have HCV:=hid (fun W=>Qag t hbt (by omega) W);rw[hS1]at HCV;have HBT:=hid hbt;obtain⟨hn4,ht⟩:=Nu.Qa4 hbt hg;obtain⟨q,hq⟩:∃q,(Nu.encN nl).length=q:=⟨_,rfl⟩;have hrl:t.length=q+r0.length:=by rw[ht,List.length_append,hq]
 have hrb:Oct.IsB r0:=fun x hx=>hbt x (by rw[ht];exact List.mem_append_right _ hx)
 have HRB:=hid hrb;have HCN:=hid hc;have hrl2:r0.length≤100000000:=by omega
 have hwq:IntKind.i64.wrap (1+(q:Int))=1+(q:Int):=IntWalk.i64_in _ (by omega);have HGN:=hid (fun a n c W hs=>Nu.QaP (bs:=t) (L:=nl) (z:=(q:Int)) (E:=0) (m:=m) (by rw[hg];show(nl,(t.length:Int)-(r0.length:Int),(0:Int))=_;rw[hrl];exact congrArg (fun x=>(nl,x,(0:Int))) (by omega)) hm hbt hlt a n c W hs);have hm4:m≤4096:=by rw[←hm];exact hn4
 have hex2:S.extract (1+q) S.size=strOfNums r0:=by
  rw[←hS,QX,strOfNums_size,Nat.add_comm 1 q,List.drop_succ_cons,ht,←hq,List.drop_left,List.take_of_length_le (by simp)]
 obtain⟨S2,hS2⟩:∃S2,strOfNums r0=S2:=⟨_,rfl⟩;have HCV2:=hid (fun W=>Qag r0 hrb (by omega) W);rw[hS2]at HCV2 hex2;have hsz2:1+(q:Int)≤(S.size:Int):=by rw[←hS,strOfNums_size,List.length_cons];omega
 clear hS hS1 hS2 hb hl hg hbt ht hq hrl hm hc hn4 hrb;go_enter Tryz.func34,Tryz.ntmps34
 go_wp2_with fail
 refine(HC.out _).mono ?_;rintro e w1 ⟨v,rfl,hv,ht1⟩;have hnn:=Qde hv;have hng:=Qby hv;have Z1:=hid (hZ.out.old ht1);have T1:=hid (HT.out.trans ht1 (fun _ _ h=>h));clear hv ht1 hZ HT HC;dsimp only;go_upto_region 4 with (fail)
 clear hnn hng;obtain⟨W3,hW3⟩:∃V,w1.alloc (.cells #[.int .i64 k0,.slice none 0 0,.int .i64 0,.int .i64 0,.int .i64 0,.int .i64 0,.string ⟨#[]⟩,.int .i64 0,.int .i64 0,.string ⟨#[]⟩] 69)=V:=⟨_,rfl⟩;obtain⟨hb3,hhb3⟩:∃g,g=w1.heap.size:=⟨_,rfl⟩;rw[hW3,←hhb3];have H3:Hid (HB W3 hb3 ⟨k0,none,0,0,zeroZ⟩):=hid (by rw[←hW3,hhb3];exact heap_alloc_new w1 _);have T3:Hid (Turn w W3 nowhere):=hid (by rw[←hW3];exact T1.out.trans (Turn.alloc _ _ _) (fun _ _ h=>h));have Z3:Hid (HB W3 w.heap.size zeroH):=hid (by rw[←hW3];exact Z1.out.old (Turn.alloc _ _ _));have hlt3:w.heap.size<hb3:=by have:=QP Z1.out;omega
 clear hW3 hhb3 Z1 T1;obtain⟨cap,w4,hrun,hs4,ht4⟩:=HCV.out W3;have HS4:=hid hs4;have H4:=hid (H3.out.old ht4);have T4:=hid (T3.out.trans ht4 (fun _ _ h=>h));have Z4:=hid (Z3.out.old ht4);clear hs4 ht4 H3 T3 Z3 HCV;go_wp2_with fail
 refine(HGN.out _ _ _ _ HS4.out).mono ?_;rintro e w5 ⟨a5,c5,rfl,hs5,ht5⟩;have T5:=hid (T4.out.trans ht5 (fun _ _ h=>h));have Z5:=hid (Z4.out.old ht5);have H5:=hid (H4.out.old ht5);have S5:=hid hs5;clear hs5 ht5 T4 Z4 H4 HS4 hrun;dsimp only;obtain⟨cap2,w6,hrun2,hs6,ht6⟩:=HCV2.out w5;have T6:=hid (T5.out.trans ht6 (fun _ _ h=>h));have Z6:=hid (Z5.out.old ht6);have H6:=hid (H5.out.old ht6);have S6:=hid (S5.out.grown ht6.grown);have HNR:=hid (In.Qah _ _ cap2 r0 w6 (In.oseg hs6) (by omega));clear hs6 ht6 T5 Z5 H5 S5 HCV2;go_wp2_with fail
 refine HNR.out.mono ?_;rintro e w7 ⟨rb,rg,rfl,hrb1,hrg1,hrb2,hrg2,hrd,hg7⟩;have t7:=Pk.Qc hg7;have TT7:Hid (Turn w6 w7 (·=hb3)):=hid (t7.mono (fun _ _ e=>e.elim));have H7:=hid (H6.out.old t7);have S7:=hid (S6.out.grown hg7);have R7:=hid hrd;have h36:hb3<w6.heap.size:=QP H6.out;have h06:w.heap.size≤w6.heap.size:=T6.out.size;clear hg7 t7 hrd HNR hrun2;dsimp only;have HCT:=hid (Nu.QdB a5 m c5 nl w7 S7.out);go_wp2_with fail
 refine HCT.out.mono ?_;rw[HCN.out];rintro e w8 ⟨rfl,ht8⟩;have TT8:=hid (TT7.out.trans ht8 (fun _ _ e=>e.elim));have H8:=hid (H7.out.old ht8);have R8:=hid (In.Turn.rd ht8 R7.out id id);have h78:=ht8.size;clear ht8 TT7 H7 S7 R7 HCT;dsimp only;obtain⟨d0,d1,d2,d3,d4,d5,d6,d7,d8,d9⟩:=H8.out.cellsAt;have f1:=H8.out.froz 1;have f2:=H8.out.froz 2;have f3:=H8.out.froz 3;have f4:=H8.out.froz 4;have f5:=H8.out.froz 5;have f6:=H8.out.froz 6;have f7:=H8.out.froz 7;have f8:=H8.out.froz 8;have f9:=H8.out.froz 9;go_upto_region 9 with (fail)
 have H9a:=HB.setZone (HB.set1 H8.out a5 m c5) ⟨(m:Int),(m:Int),zeroC,zeroC⟩;have T9a:=(Qer w8 hb3 1 (.slice a5 m c5)).trans (Qdz _ hb3 ⟨(m:Int),(m:Int),zeroC,zeroC⟩) (fun _ _ h=>h);obtain⟨W9,hW9⟩:∃V,((((((((w8.setCell ⟨hb3,1,none⟩ (.slice a5 m c5)).setCell ⟨hb3,2,none⟩ (.int .i64 (m:Int))).setCell ⟨hb3,3,none⟩ (.int .i64 (m:Int))).setCell ⟨hb3,4,none⟩ (.int .i64 0)).setCell ⟨hb3,5,none⟩ (.int .i64 0)).setCell ⟨hb3,6,none⟩ (.string ⟨#[]⟩)).setCell ⟨hb3,7,none⟩ (.int .i64 0)).setCell ⟨hb3,8,none⟩ (.int .i64 0)).setCell ⟨hb3,9,none⟩ (.string ⟨#[]⟩)=V:=⟨_,rfl⟩;have H9:Hid (HB W9 hb3 ⟨k0,a5,m,c5,⟨(m:Int),(m:Int),zeroC,zeroC⟩⟩):=hid (by rw[←hW9];exact H9a);have t9:Turn w8 W9 (·=hb3):=by rw[←hW9];exact T9a
 have TT9:=hid (TT8.out.trans t9 (fun _ _ h=>h));have R9:=hid (In.Turn.rd t9 R8.out (by omega) (by omega));have h89:=t9.size;rw[hW9];clear hW9 H9a T9a t9 TT8 H8 R8 d0 d1 d2 d3 d4 d5 d6 d7 d8 d9 f1 f2 f3 f4 f5 f6 f7 f8 f9;obtain⟨d0,d1,d2,d3,d4,d5,d6,d7,d8,d9⟩:=H9.out.cellsAt;have HVA:=hid (QM ⟨k0,a5,m,c5,⟨(m:Int),(m:Int),zeroC,zeroC⟩⟩ 0 (by show(m:Int)-(m:Int)=0;omega) (by omega) W9);have HCK:=hid (fun W=>(by have h:=Zn.QbB ⟨(m:Int),(m:Int),zeroC,zeroC⟩ k0 W;rw[hck]at h;exact h));clear hck;go_wp2_with fail
 refine HVA.out.mono ?_;rintro e w10 ⟨rfl,hg10⟩;have t10:=Pk.Qc hg10;have TT10:=hid (TT9.out.trans t10 (fun _ _ e=>e.elim));have H10:=hid (H9.out.old t10);have R10:=hid (In.Turn.rd t10 R9.out id id);have h910:=t10.size;clear hg10 t10 TT9 H9 R9 HVA d0 d1 d2 d3 d4 d5 d6 d7 d8 d9;dsimp only;obtain⟨d0,d1,d2,d3,d4,d5,d6,d7,d8,d9⟩:=H10.out.cellsAt;go_wp2_with fail
 refine(HCK.out _).mono ?_;rintro e w11 ⟨rfl,hg11⟩;have t11:=Pk.Qc hg11;have TT11:=hid (TT10.out.trans t11 (fun _ _ e=>e.elim));have H11:=hid (H10.out.old t11);have R11:=hid (In.Turn.rd t11 R10.out id id);have h1011:=t11.size;clear hg11 t11 TT10 H10 R10 HCK d0 d1 d2 d3 d4 d5 d6 d7 d8 d9;dsimp only;obtain⟨d0,d1,d2,d3,d4,d5,d6,d7,d8,d9⟩:=H11.out.cellsAt;have Z11:Hid (HB w11 w.heap.size zeroH):=hid (Z6.out.turn TT11.out (by omega));go_wp2_with (first
  |(with_reducible refine QK rfl (.tmp 2) (.tmp 73) rfl w.heap.size rfl ⟨k0,a5,m,c5,⟨(m:Int),(m:Int),zeroC,zeroC⟩⟩ rfl zeroH Z11.out ?_;intro w12 hz12 ht12)
  |fail)
 have S11:=QaU S6.out H6.out TT11.out;have S12:=QaU S11 Z11.out ht12;refine bodyPost_ret (QO rfl _ _ _ ⟨k0,a5,m,c5,⟨(m:Int),(m:Int),zeroC,zeroC⟩⟩ _ _ rfl hz12 rfl rfl) rfl ⟨a5,c5,rb,rg,rfl,S12,In.Turn.rd ht12 R11.out (by omega) (by omega),HRB.out,hrl2,by omega,by have:=ht12.size;omega,(fun ad e hn0=>by have:=Qbu S6.out ad e hn0;omega),?_⟩;exact Turn.trans (Turn.trans T6.out TT11.out (fun i hi e=>by omega)) ht12 (fun i hi e=>by omega)
end Sg
namespace Sg
open Go.RowKit Go.Joins Zn Zr
open Nu (encN)
theorem QiE{c:Cel}(hi:c.k=2→0≤c.n∧c.n<256)(hs:c.s.size≤65536):Oct.IsB (cellB c):=by
 unfold cellB;by_cases e1:c.k=1
 ·rw[if_pos e1];exact In.Qex _
 ·rw[if_neg e1];by_cases e2:c.k=2
  ·rw[if_pos e2];intro x hx;obtain rfl:x=c.n:=by simpa using hx
   exact hi e2
  ·rw[if_neg e2];exact Tx.Qi3 (Qd1 _) (by rw[Qb7];omega)
theorem Qnr(kind:Int){l:List Cel}(hl:l.length≤4096)(h:∀c∈l,CelOk kind c):Oct.IsB (bodyS kind l):=by
 unfold bodyS;by_cases e1:kind=1
 ·rw[if_pos e1];rcases In.QgE (l.map (·.n)) with e|e|e <;> rw[e]
  ·exact In.Qcj 1 _ (by omega) (by rw[List.length_map];omega)
  ·exact In.Qcj 2 _ (by omega) (by rw[List.length_map];omega)
  ·exact In.Qcj 3 _ (by omega) (by rw[List.length_map];omega)
 ·rw[if_neg e1];by_cases e2:kind=2
  ·rw[if_pos e2];exact(Pk.Qfs _ _).isB
  ·rw[if_neg e2];have hO:Tx.OkT (l.map fun c=>nm c.s):=⟨by rw[List.length_map];exact hl,fun s hs=>by
    obtain⟨c,hc,rfl⟩:=List.mem_map.1 hs;rw[Qb7];exact QaM (h c hc).ok⟩
   have hA:Tx.AllB (l.map fun c=>nm c.s):=fun s hs=>by
    obtain⟨c,hc,rfl⟩:=List.mem_map.1 hs;exact Qd1 _
   unfold Tx.bestT
   split
   ·exact Tx.QhB hO hA
   ·exact Tx.QgN hO hA
theorem QaS{kind:Int}{l:List Cel}(h:Col kind l):Oct.IsB (encS kind l):=by
 have k1:=h.k1;have k3:=h.k3;unfold encS;intro x hx;rcases List.mem_cons.1 hx with rfl|hx
 ·omega
 ·rcases List.mem_append.1 hx with hx|hx
  ·exact Nu.QaS (by rw[QaX];have:=h.few;omega) x hx
  ·unfold tailS at hx;by_cases hs:someL l=[]
   ·rw[if_pos hs]at hx;cases hx
   ·rw[if_neg hs]at hx;obtain⟨o1,o2,_⟩:=QiK h hs;rcases List.mem_append.1 hx with hx|hx
    ·exact QiE (QbU o1) (QaM o1.ok) x hx
    ·rcases List.mem_append.1 hx with hx|hx
     ·exact QiE (QbU o2) (QaM o2.ok) x hx
     ·exact Qnr kind (by have h1:=Qa8 l;have:=h.few;omega) h.some x hx
def PutC:Prop:=∀(kind:Int) (a:Option Addr) (n c:Nat) (l:List Cel) (w:World),CSeg w a n c l→IntOk l→StrsOk l→n≤65536 →
 Calls Tryz.prog 11 #[.int .i64 kind,.slice a n c] w fun e w'=>e=.returned (.tuple #[.string (strOfNums (putS kind l).2),.int .i64 (putS kind l).1])∧w.grownBy w' none
def CheckC:Prop:=∀(kind:Int) (a:Option Addr) (n c:Nat) (l:List Cel) (w:World),CSeg w a n c l→IntOk l→StrsOk l→n≤65536 →
 Calls Tryz.prog 19 #[.int .i64 kind,.slice a n c] w fun e w'=>e=.returned (.int .i64 (checkS kind l))∧w.grownBy w' none
def outS(s:List Int):Int×List Cel×Int:=match getS s with
 |some (k,l)=>(k,l,0)
 |none=>(0,[],4)
def GetC:Prop:=∀(s:List Int) (w:World),Bs.IsB s→s.length≤100000000→Calls Tryz.prog 12 #[.string (strOfNums s)] w fun e w'=>
 ∃a c,e=.returned (.tuple #[.int .i64 (outS s).1,.slice a (outS s).2.1.length c,.int .i64 (outS s).2.2])∧CSeg w' a (outS s).2.1.length c (outS s).2.1∧w.grownBy w' none
def ZoneC:Prop:=∀(s:List Int) (w:World),Bs.IsB s→s.length≤100000000→Calls Tryz.prog 13 #[.string (strOfNums s)] w fun e w'=>
 e=.returned (.tuple #[.int .i64 (zoneS s).1,.agg #[.int .i64 (zoneS s).2.1.cnt,.int .i64 (zoneS s).2.1.nul,.int .i64 (zoneS s).2.1.min.k,.int .i64 (zoneS s).2.1.min.n,.string (zoneS s).2.1.min.s,.int .i64 (zoneS s).2.1.max.k,.int .i64 (zoneS s).2.1.max.n,.string (zoneS s).2.1.max.s],.int .i64 (zoneS s).2.2])∧w.grownBy w' none
theorem Qmt(a:Option Addr)(n c:Nat)(l:List Cel)(w:World)(hs:CSeg w a n c l)(ho:StrsOk l) :
  Calls Tryz.prog 15 #[.slice a n c] w (LightX n 60 w):=by
 have H:=hid (Qg2 a n c l w hs ho);clear hs ho;go_enter Tryz.func15,Tryz.ntmps15
 go_wp2_with fail
 refine H.out.mono ?_;rintro e w' ⟨b,rfl,hb,rfl⟩;have HB:=hid hb;clear hb;dsimp only;go_wp2;go_ret
 exact⟨b,rfl,HB.out,rfl⟩
def l2:List Cel:=[⟨2,1,⟨#[]⟩⟩,zeroC]
theorem Qpv:putS 2 l2=(0,[2,2,2,2,1,1,1]):=by decide +kernel
theorem Qm5(HP:PutC)(w:World):Calls Tryz.prog 9 #[] w fun e w'=>e=.returned (.bool true)∧w.grownBy w' none:=by
 have hl:CSeg (w.alloc (.cells #[.int .i64 2,.int .i64 1,.string ⟨#[]⟩,.int .i64 0,.int .i64 0,.string ⟨#[]⟩] 24)) (some ⟨w.heap.size,0,none⟩) 2 2 l2:=CSeg.lit w l2 (by decide);have hp:=HP 2 _ 2 2 l2 _ hl (fun x hx=>by
  rcases List.mem_cons.1 hx with rfl|hx
  ·decide
  ·obtain rfl:x=zeroC:=by simpa using hx
   decide) (fun x hx=>by
  rcases List.mem_cons.1 hx with rfl|hx
  ·show(0:Nat)≤140737488355328;omega
  ·obtain rfl:x=zeroC:=by simpa using hx
   show(0:Nat)≤140737488355328;omega) (by decide)
 rw[Qpv]at hp;obtain⟨S,hS⟩:∃S,S=strOfNums [2,2,2,2,1,1,1]:=⟨_,rfl⟩;have hp2:=hp.mono fun e w' (h:_∧_)=>(show e=.returned (.tuple #[.string S,.int .i64 0])∧(w.alloc (.cells #[.int .i64 2,.int .i64 1,.string ⟨#[]⟩,.int .i64 0,.int .i64 0,.string ⟨#[]⟩] 24)).grownBy w' none from⟨by rw[h.1,hS],h.2⟩)
 have q1:(S.toList==([2,2,2,2,1,1,1]:List UInt8))=true:=by rw[hS,Go.ByteArray.toList_eq];decide +kernel
 have HPP:=hid hp2;clear hp hp2 hl hS HP;go_enter Tryz.func9,Tryz.ntmps9
 go_wp2_with fail
 refine HPP.out.mono ?_;rintro e w1 ⟨rfl,hg⟩;have G1:=hid (Qa (Qb w _) hg);clear hg HPP;dsimp only;go_wp2;go_ret
 exact⟨rfl,G1.out⟩
end Sg
end Go.Proofs.YtljanfnhmhimiaaGreat
