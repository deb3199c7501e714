/- Parts of the proof. -/
import Derived.WalkSpells
import Derived.Test.YtbbbocoliandcaaGreatDoorKrV
set_option maxRecDepth 100000
set_option maxHeartbeats 8000000
open Go.Lib (hid)
namespace Go.Proofs.YtbbbocoliandcaaGreatDoor
namespace Dv
open Go.RowKit Bs
theorem Reg.subp{w:World}{b o:Nat}{l:List Int}(h:Reg w b o l)(p:Nat):Reg w b (o+p) (l.drop p):=fun j x hx=>by
 rw[List.getElem?_drop]at hx;have:=h (p+j) x hx;rw[←Nat.add_assoc]at this;exact this
theorem Reg.join{w w':World}{b o p:Nat}{l v:List Int}(h:Reg w b o l)(h1:Reg w' b (o+p) (spl (l.drop p) 0 v))(ho:Out w w' b (o+p) v.length)(hp:p+v.length≤l.length):Reg w' b o (spl l p v):=fun j x hx=>by
 rw[Qb7 l p v hp]at hx;by_cases h2:j<p
 ·rw[if_pos h2]at hx;rw[ho.frozen,ho.cell (o+j) (by omega)];exact h j x hx
 ·rw[if_neg h2]at hx;have h3:=h1 (j-p) x (by
   rw[Qb7 _ _ _ (by rw[List.length_drop];omega),if_neg (by omega)];by_cases h4:j<p+v.length
   ·rw[if_pos h4]at hx;rw[if_pos (by omega)];exact hx
   ·rw[if_neg h4]at hx;rw[if_neg (by omega),List.getElem?_drop,show p+(j-p)=j from by omega];exact hx)
  rw[show o+p+(j-p)=o+j from by omega]at h3;exact h3
theorem Qgp(s:Nat)(old new:List Int)(hl:new.length=old.length)(j:Nat):(mix s old new)[j]?=if s.testBit (j / 64) then new[j]? else old[j]?:=by
 by_cases hj:j<old.length
 ·unfold mix;rw[List.getElem?_map,List.getElem?_range hj];have h2:j<new.length:=by omega
  simp only[Option.map_some,List.getD,hj,h2,List.getElem?_eq_getElem,Option.getD_some]
  split <;> rfl
 ·rw[List.getElem?_eq_none (by rw[QdR];omega),List.getElem?_eq_none (by omega),List.getElem?_eq_none (by omega)];simp
theorem QkC(s t:Nat)(old new:List Int)(hl:new.length=old.length)(ht:s.testBit t=true)(hp:64*t+64≤old.length) :
  spl (mix (s % 2 ^ t) old new) (64*t) ((new.drop (64*t)).take 64)=mix (s % 2 ^ (t+1)) old new:=by
 apply List.ext_getElem?
 intro j;have hv:((new.drop (64*t)).take 64).length=64:=by rw[List.length_take,List.length_drop];omega
 rw[Qb7 _ _ _ (by rw[hv,QdR];exact hp),hv,Qgp _ _ _ hl,Qgp _ _ _ hl,Nat.testBit_mod_two_pow,Nat.testBit_mod_two_pow];by_cases h1:j<64*t
 ·rw[if_pos h1];have e1:j / 64<t:=by omega
  have e2:j / 64<t+1:=by omega
  simp[e1,e2]
 ·rw[if_neg h1];by_cases h2:j<64*t+64
  ·rw[if_pos h2];have e1:j / 64=t:=by omega
   rw[e1,ht,List.getElem?_take_of_lt (by omega),List.getElem?_drop,show 64*t+(j-64*t)=j from by omega];simp
  ·rw[if_neg h2];have e1:¬j / 64<t:=by omega
   have e2:¬j / 64<t+1:=by omega
   simp[e1,e2]
theorem QkE(s k t:Nat)(hkt:k≤t)(h:∀j,k≤j→j<t→s.testBit j=false):s % 2 ^ t=s % 2 ^ k:=by
 apply Nat.eq_of_testBit_eq
 intro j;rw[Nat.testBit_mod_two_pow,Nat.testBit_mod_two_pow];by_cases h1:j<k
 ·simp[h1,show j<t by omega]
 ·by_cases h2:j<t
  ·simp[h1,h2,h j (by omega) h2]
  ·simp[h1,h2]
def Left(s k r:Nat):Prop:=∀j,r.testBit j=(decide (k≤j) && s.testBit j)
theorem Left.start(s:Nat):Left s 0 s:=fun j=>by simp
theorem Left.low{s k r t:Nat}(h:Left s k r)(ht:Lowest r t):k≤t∧s.testBit t=true∧∀j,k≤j→j<t→s.testBit j=false:=by
 have h1:=h t;rw[ht.1]at h1;have h1:=h1.symm;simp only[Bool.and_eq_true,decide_eq_true_eq]at h1;refine⟨h1.1,h1.2,fun j hk hj=>?_⟩;have h2:=h j;rw[ht.2 j hj]at h2
 simpa [hk] using h2.symm
theorem Left.next{s k r t:Nat}(h:Left s k r)(ht:Lowest r t):Left s (t+1) (r &&& (r-1)):=fun j=>by
 rw[QiV r t ht,h j];have h1:=(h.low ht).1;by_cases e:t<j
 ·simp[e,show k≤j by omega,show t+1≤j by omega]
 ·simp[e,show ¬t+1≤j by omega]
theorem Left.done{s k:Nat}(h:Left s k 0):s % 2 ^ k=s:=by
 apply Nat.eq_of_testBit_eq
 intro j;rw[Nat.testBit_mod_two_pow];have h1:=h j;rw[Nat.zero_testBit]at h1;by_cases e:j<k
 ·simp[e]
 ·have:k≤j:=by omega
  simp[this]at h1;simp[e,h1]
theorem Qg7(r:Nat)(h:r≠0):r &&& (r-1)<r:=Nat.lt_of_le_of_lt Nat.and_le_right (by omega)
theorem Qmd(s m t:Nat)(h:s<2 ^ m)(ht:s.testBit t=true):t<m:=by
 apply Nat.lt_of_not_le
 intro hle;rw[Nat.testBit_lt_two_pow (Nat.lt_of_lt_of_le h (Nat.pow_le_pow_right (by decide) hle))]at ht;cases ht
theorem T64.turn{w w':World}{S:Nat→Prop}(h:T64 w)(k:Turn w w' S)(hS:¬S 0):T64 w':=fun j hj=>k.cell (h j hj) hS
def Mixed(b o n:Nat)(l:List Int)(w:World)(e:Ending)(w':World):Prop:=e=.returned (.tuple #[])∧Reg w' b o l∧Out w w' b o n
theorem putsec_any (b o n c s:Nat) (old new:List Int) (w:World) (h:Reg w b o old) (hl:old.length=n) (hn:new.length=n) (hB:IsB new) (hc:n≤c) (hm:n≤4096) (h64:n % 64=0) (hs:s<2 ^ (n / 64)) (hT:T64 w) (hg:b≠0) :
    Calls Tryz.prog 135 #[.slice (some ⟨b,o,none⟩) n c,.string (strOfNums new),.int .u64 (s:Int)] w (Mixed b o n (mix s old new) w):=by
  have hs64:s<18446744073709551616:=Nat.lt_of_lt_of_le hs (Nat.le_trans (Nat.pow_le_pow_right (by decide) (by omega:n / 64≤64)) (by decide))
  have HT:=hid hT
  have HH:=hid h
  have HL:=hid hl
  have HN:=hid hn
  have HB:=hid hB
  have HS:=hid hs
  have HG:=hid hg
  have H64:=hid h64
  obtain⟨T,hTT⟩:∃T,T=strOfNums new:=⟨_,rfl⟩
  have hsz:T.size=n:=by rw[hTT,strOfNums_size,hn]
  rw[←hTT]
  have HTT:=hid hTT
  have HSZ:=hid hsz
  clear h hl hn hB hs hT hg h64 hTT hsz
  go_enter Tryz.func135,Tryz.ntmps135
  go_wp2
  go_loopw [2] (fun sv wr=>∃r k:Nat,sv=.int .u64 (r:Int)∧r<18446744073709551616∧Hid (Left s k r)∧Hid (Reg wr b o (mix (s % 2 ^ k) old new))∧Hid (Out w wr b o n)) (fun sv _=>(intOf sv).toNat)
  case atStart=>exact⟨s,0,rfl,hs64,Left.start s,by rw[show s % 2 ^ 0=0 from by simp[Nat.mod_one],QkD];exact HH.out,Out.refl _ _ _ _⟩
  case round =>
    obtain⟨r,k,rfl,hr64,HLF,HR,HO⟩:=hrel
    by_cases hr0:r=0
    · subst hr0
      have HD:=hid (HLF.out.done)
      rw[HD.out]at HR
      go_wp2
      go_end0
      exact⟨rfl,HR.out,HO.out⟩
    · obtain ⟨hlow,ht64⟩:=Qjl       64 r hr0 hr64
      obtain⟨hkt,hst,hno⟩:=HLF.out.low hlow
      have HLO:=hid hlow
      have htn:=Qmd s (n / 64) _ HS.out hst
      have HNX:=hid (HLF.out.next hlow)
      have HMS:=hid (QkE s k _ hkt hno)
      have HST:=hid hst
      have hp64:64*Lib.ctz 64 r+64≤n:=by have:=H64.out;omega
      have HTZ:=hid (Qk8 r wr hr64 hr0 (HT.out.turn HO.out.turn (fun e=>HG.out e.symm)))
      have hne:((r:Int) != 0)=true:=bne_iff_ne.2 (by omega)
      have hand:bits BinOp.and IntKind.u64 (r:Int) ((r:Int)-1)=((r &&& (r-1):Nat):Int):=by
        rw[show(r:Int)-1=((r-1:Nat):Int) from by omega]
        exact bits_and_u64_nat r (r-1) hr64 (by omega)
      have HAND:=hid hand
      have hlt:=Qg7 r hr0
      have hr1:1≤(r:Int):=by omega
      clear hlow hkt hst hno htn hand hr0
      generalize Lib.ctz 64 r=t at *
      go_wp2_with (first
        |(go_at_call 182;refine HTZ.out.mono ?_;rintro e w' ⟨rfl,rfl⟩)
        |fail)
      have hwr:IntKind.i64.wrap (64*(t:Int)+64)=64*(t:Int)+64:=by rw[IntKind.wrap_i64];omega
      have i1:¬(64*(t:Int)<0):=by omega
      have i2:¬((n:Int)<64*(t:Int)):=by omega
      have i3:0≤64*(t:Int):=by omega
      have i4:64*(t:Int)≤n:=by omega
      have hz:=HSZ.out
      have i5:64*(t:Int)+64≤(T.size:Int):=by omega
      have i6:0≤64*(t:Int)+64:=by omega
      have i7:64*(t:Int)≤64*(t:Int)+64:=by omega
      have i8:¬(c=(64*(t:Int)).toNat):=by omega
      have i10:¬(c=64*t):=by omega
      have i9:64*(t:Int)≤c:=by omega
      clear hz
      have e1:(64*(t:Int)).toNat=64*t:=by omega
      have e2:(64*(t:Int)+64).toNat=64*t+64:=by omega
      have hx:=HN.out
      have hxl:=HL.out
      rw[←HMS.out]at HR
      have HV:Hid (T.extract (64*t) (64*t+64)=strOfNums ((new.drop (64*t)).take 64)):=hid (by rw[HTT.out,QcH,show 64*t+64-64*t=64 from by omega])
      have HVL:Hid (((new.drop (64*t)).take 64).length=64):=hid (by rw[List.length_take,List.length_drop];omega)
      have HML:Hid ((mix (s % 2 ^ t) old new).length=n):=hid (by rw[QdR];omega)
      clear hx hxl
      go_region_held3 (fun _=>True) (trivial)
        (first
          | (refine Qdn           (by rfl) (.tmp 18) (.tmp 23) (by rfl) b (o+64*t) (n-64*t) (c-64*t) (by rfl) ((mix (s % 2 ^ t) old new).drop (64*t)) ((new.drop (64*t)).take 64) (by rw[←HV.out];rfl) (by exact HR.out.subp (64*t)) (Q7       (QP       HB.out _) _) (by rw[HVL.out];omega) (by rw[HVL.out,List.length_drop,HML.out];omega) ?_
             intro w3 hr3 ho3
             have HR3:Hid (Reg w3 b o (mix (s % 2 ^ (t+1)) old new)):=hid (by
               rw[←QkC s t old new (by rw[HN.out,HL.out]) HST.out (by rw[HL.out];omega)]
               exact Reg.join (w:=wr.drew) (by exact HR.out) hr3 ho3 (by rw[HVL.out,HML.out];omega))
             have HO3:Hid (Out w w3 b o n):=hid (HO.out.trans (((Out.refl wr b o n).drewN 1).trans (ho3.mono (by omega) (by rw[HVL.out];omega))))
             clear hr3 ho3)
          |fail)
      go_wp2
      go_roundw
      case rel=>exact⟨r &&& (r-1),t+1,by rw[HAND.out],by omega,HNX,HR3,HO3⟩
      case measure=>simp[intOf,HAND.out];omega
theorem QjM{w:World}{a:Addr}{v:Value}(h:w.cell? a=some v):a.spot=none:=by
 unfold World.cell? at h
 split at h
 ·split at h
  ·cases h
  ·rename_i h2
   simpa using h2
 ·cases h
theorem PSeg.form{w:World}{pa:Option Addr}{n c:Nat}{l:List (Int×Nat)}(h:PSeg w pa n c l)(hn:n≠0):∃B O,pa=some ⟨B,O,none⟩∧∀k,k<n→w.cell? ⟨B,O+k*2,none⟩=some (.int .i64 (l.getD k (0,0)).1)∧w.cell? ⟨B,O+k*2+1,none⟩=some (.int .u64 ((l.getD k (0,0)).2:Int)):=by
 cases pa with
 |none=>exact absurd (h.nil_ rfl).1 hn
 |some ad=>
  have h0:=QjM (h.at_ ad rfl 0 (by omega)).1;obtain⟨B,O,sp⟩:=ad;have:sp=none:=h0;subst this;refine⟨B,O,rfl,fun k hk=>?_⟩;have h1:=h.at_ _ rfl k hk
  rwa [Addr.add_lit,Addr.add_lit,←Nat.add_assoc]at h1
def Marks(w:World)(h n:Nat)(f:Nat→Bool):Prop:=∀j,j<n→w.cell? ⟨h,j,none⟩=some (.bool (f j))∧w.frozen? ⟨h,j,none⟩=false
theorem Marks.turn{w w':World}{h n:Nat}{f:Nat→Bool}{S:Nat→Prop}(m:Marks w h n f)(k:Turn w w' S)(hS:¬S h)(hlt:h<w.heap.size):Marks w' h n f:=fun j hj=>
 ⟨k.cell (m j hj).1 hS,by rw[k.frozen (p:=⟨h,j,none⟩) hlt hS];exact(m j hj).2⟩
theorem Marks.set{w:World}{h n:Nat}{f:Nat→Bool}(m:Marks w h n f)(j:Nat)(hj:j<n)(b:Bool):Marks (w.setCell ⟨h,j,none⟩ (.bool b)) h n (fun i=>if i=j then b else f i):=fun i hi=>by
 have ho:=Out.setCell w h 0 n j (.bool b) (Nat.zero_le _) (by omega);refine⟨?_,by rw[ho.frozen];exact(m i hi).2⟩
 show _=some (Value.bool (if i=j then b else f i))
 by_cases e:i=j
 ·subst e;rw[if_pos rfl];exact World.cell?_setCell_same _ _ _ (m i hi).1
 ·rw[if_neg e,World.cell?_setCell_other _ _ _ _ (by intro e2;injection e2 with _ e3;exact e e3.symm)];exact(m i hi).1
def picked(l:List (Int×Nat))(k:Nat)(j:Nat):Bool:=(l.take k).any fun p=>p.1==(j:Int)
theorem Qhn(l:List (Int×Nat))(j:Nat):picked l 0 j=false:=by simp[picked]
theorem Qhm(l:List (Int×Nat))(k j:Nat)(hk:k<l.length):picked l (k+1) j=(picked l k j || ((l.getD k (0,0)).1==(j:Int))):=by
 have e:l.getD k (0,0)=l[k]:=by simp[List.getD,hk]
 unfold picked;rw[e,List.take_succ_eq_append_getElem hk,List.any_append];simp
theorem Qd3(l:List (Int×Nat))(k j:Nat):picked l k j=true↔∃i,i<k∧i<l.length∧(l.getD i (0,0)).1=(j:Int):=by
 unfold picked;rw[List.any_eq_true]
 constructor
 ·rintro⟨x,hx,h⟩;obtain⟨i,hi,rfl⟩:=List.mem_iff_getElem.1 hx;rw[List.length_take]at hi;refine⟨i,by omega,by omega,?_⟩;rw[List.getElem_take]at h;have:i<l.length:=by omega
  simpa [List.getD,this] using h
 ·rintro⟨i,h1,h2,h3⟩;refine⟨l[i],?_,by simpa [List.getD,h2] using h3⟩;rw[List.mem_iff_getElem];exact⟨i,by rw[List.length_take];omega,by rw[List.getElem_take]⟩
def pickAt(s:St)(l:List (Int×Nat))(i:Nat):Prop:=
 0≤(l.getD i (0,0)).1∧(l.getD i (0,0)).1<s.pend.length∧(l.getD i (0,0)).2<2 ^ (s.size / 64)∧∀k,k<i→(l.getD k (0,0)).1≠(l.getD i (0,0)).1
theorem Qd4(s:St)(l:List (Int×Nat)):picksOk s l↔∀i,i<l.length→pickAt s l i:=Iff.rfl
def Told(s:St)(l:List (Int×Nat))(w:World)(e:Ending)(w':World):Prop:=∃ok:Bool,e=.returned (.bool ok)∧(ok=true↔picksOk s l)∧Turn w w' nowhere
theorem Told.drewN{s:St}{l:List (Int×Nat)}{w w':World}{e:Ending}(h:Told s l w e w')(n:Nat):Told s l w e (w'.drewN n):=by
 obtain⟨ok,h1,h2,h3⟩:=h;exact⟨ok,h1,h2,h3.trans (Turn.drewN _ _ nowhere) (fun _ _ h=>h)⟩
theorem Qdv:(Tryz.prog.info? 4).map (fun i=>(i.zero,i.size,i.bytes))=some (some (.bool false),1,1):=by kernel_rfl
theorem Qim(N:Nat)(hN:N≤100000000)(W:World):(Instr.makeSlice 216 (.int .i64 (N:Int)) (.int .i64 (N:Int))).run Tryz.prog W=.ok (.slice (some ⟨W.heap.size,0,none⟩) N N) (W.alloc (.cells (madeCells (Value.bool false).cells N) 4)):=by
 obtain⟨i0,hi,hz0,hz1,hz2⟩:=info_parts Qdv;have h:=run_make (P:=Tryz.prog) W 216 4 i0 (.bool false) Tryz.underlying216 hi hz0 .i64 .i64 (N:Int) (N:Int) (by omega) (by omega) (by rw[hz2];omega) (by omega);rw[hz1,Int.toNat_natCast,Nat.mul_one]at h;exact h
theorem Qir(w:World)(N:Nat):Marks (w.alloc (.cells (madeCells (Value.bool false).cells N) 4)) w.heap.size N (fun _=>false):=fun j hj=>by
 have hg:=heap_alloc_new w (.cells (madeCells (Value.bool false).cells N) 4);have e:(madeCells (Value.bool false).cells N).toList=List.replicate N (.bool false):=toList_madeCells_one _ _;refine⟨?_,by unfold World.frozen?;rw[hg];simp⟩;rw[cell_of_row _ _ _ _ _ _ hg,←Array.getElem?_toList,e,List.getElem?_replicate,if_pos hj]
theorem Qic(x:Nat)(B:Nat)(hB:B≤64)(h:x<2 ^ B):∃m:Int,HasBits (x:Int) m:=by
 induction B with
 |zero=>exact⟨0,by omega,by omega,by simp at h;subst h;simp,fun h=>by omega⟩
 |succ B ih=>
  by_cases h1:x<2 ^ B
  ·exact ih (by omega) h1
  ·refine⟨((B+1:Nat):Int),by omega,by omega,?_,fun _=>?_⟩
   ·rw[Int.toNat_natCast];have:((2:Int) ^ (B+1))=((2 ^ (B+1):Nat):Int):=by simp
    rw[this];omega
   ·rw[Int.toNat_natCast,Nat.add_sub_cancel];have:((2:Int) ^ B)=((2 ^ B:Nat):Int):=by simp
    rw[this];omega
theorem Qhg{x n m:Int}(h:HasBits x n)(k:HasBits x m):n=m:=by
 rcases Int.lt_trichotomy n m with h1|h1|h1
 ·obtain⟨j,rfl⟩:∃j:Nat,n=(j:Int):=⟨n.toNat,by have:=h.1;omega⟩;have h2:=(Qbr k j).1 h1;have h3:=mt (Qbr h j).2 (by omega);exact absurd h2 h3
 ·exact h1
 ·obtain⟨j,rfl⟩:∃j:Nat,m=(j:Int):=⟨m.toNat,by have:=k.1;omega⟩;have h2:=(Qbr h j).1 h1;have h3:=mt (Qbr k j).2 (by omega);exact absurd h2 h3
theorem QiR{x m:Int}(hb:HasBits x m)(n:Nat)(h0:0≤x):decide (((n*64:Nat):Int) / 64<m)=decide (2 ^ n≤x.toNat):=by
 rw[decide_eq_decide,show((n*64:Nat):Int) / 64=(n:Int) from by omega,Qbr hb n];have:((2:Int) ^ n)=((2 ^ n:Nat):Int):=by simp
 rw[this];omega
theorem Qgk(x n:Nat)(hx:x<18446744073709551616)(d:Bool)(hd:d=decide (2 ^ n≤x)) :
  ∃m,decide (((n*64:Nat):Int) / 64<m)=d∧∀w,Calls Tryz.prog 181 #[.int .u64 (x:Int)] w fun e w'=>e=.returned (.int .i64 m)∧w'=w:=by
 obtain⟨m,hm⟩:=Qic x 64 (by omega) hx;refine⟨m,?_,fun w=>(Qji (x:Int) w (by omega) (by omega)).mono ?_⟩
 ·rw[QiR hm n (by omega),hd,Int.toNat_natCast]
 ·rintro e w' ⟨k,rfl,hb,rfl⟩;exact⟨by rw[Qhg hb hm],rfl⟩
theorem QhA(g b:Nat)(P:Value)(s:St)(pa:Option Addr)(n c:Nat)(l:List (Int×Nat))(w:World)(h:Dev w g b P s)(hp:PSeg w pa n c l) :
  Calls Tryz.prog 133 #[.pointer (some ⟨g,0,none⟩),.slice pa n c] w (Told s l w):=by
 obtain⟨c',_,_,q0,q1,q2,q3,q4,q5,q6⟩:=h.cells;obtain⟨a,ac,rfl,hac1,hac2,hnil,hat⟩:=Qel h.row;have hfew:=h.ok.few;have hlo:=h.ok.lo;have hhi:=h.ok.hi;obtain⟨N,hN⟩:∃N,N=s.pend.length:=⟨_,rfl⟩;rw[←hN]at q3 hfew;have hmk:=Qim N (by omega);obtain⟨M,hM⟩:∃M,M=madeCells (Value.bool false).cells N:=⟨_,rfl⟩;rw[←hM]at hmk;have HM:=hid (fun W:World=>(by rw[hM];exact Qir W N:Marks (W.alloc (.cells M 4)) W.heap.size N (fun _=>false)));have HN:=hid hN;have HP:=hid hp;have hnl:=hp.len;have HNL:=hid hnl;have hncap:=Nat.le_trans hp.le hp.cap;unfold maxLen at hncap;have HQ:=hid (show ∀wr,Turn w wr nowhere→wr.cell? ⟨g,0,none⟩=some (.int .i64 (s.size:Int)) from fun wr k=>k.cell q0 id);have HPN:=hid hp.form;have HB64:=hid h.ok.by64;clear h hac1 hac2 hnil hat hM hN hp hnl;go_enter Tryz.func133,Tryz.ntmps133
 go_wp2;have HT0:Hid (Turn w (w.alloc (.cells M 4)) nowhere):=hid (Turn.alloc _ _ _);have HM0:=hid (HM.out w)
 go_loopw [16] (fun sv wr=>∃k:Nat,k≤n∧sv=.int .i64 (k:Int)∧Hid (∀i,i<k→pickAt s l i)∧Hid (Turn w wr nowhere)∧Hid (Marks wr w.heap.size N (picked l k))∧Hid (w.heap.size<wr.heap.size)) (fun sv _=>n-(intOf sv).toNat)
 case atStart=>exact⟨0,Nat.zero_le _,rfl,hid (by omega),HT0,hid (by rw[show picked l 0=fun _=>false from funext (Qhn l)];exact HM0.out),hid (by rw[World.size_alloc];omega)⟩
 case round=>
  obtain⟨k,hk,rfl,HG,HT,HMK,HLT⟩:=hrel;by_cases hkn:k<n
  ·obtain⟨B,O,rfl,hat⟩:=HPN.out (by omega);obtain⟨⟨p1,p2⟩,hpq⟩:∃q:Int×Nat,l.getD k (0,0)=q:=⟨_,rfl⟩;have hat:=hat k hkn;have hsm:=HP.out.small (l.getD k (0,0)) (by
    have:k<l.length:=by rw[HNL.out];exact hkn
    simp[List.getD,this])
   rw[hpq]at hat hsm;obtain⟨hs1,hs2,hs3⟩:=hsm;have c0:wr.cell? ⟨B,O+k*2,none⟩=some (.int .i64 p1):=HT.out.cell hat.1 id;have c1:wr.cell? ⟨B,O+k*2+1,none⟩=some (.int .u64 (p2:Int)):=HT.out.cell hat.2 id;have HNO:Hid (¬pickAt s l k→Told s l w (.returned (.bool false)) (wr.alloc (.cells #[.int .i64 p1,.int .u64 (p2:Int)] 94))):=hid (fun hno=>⟨false,rfl,⟨(fun e=>by cases e),fun hh=>absurd ((Qd4 s l).1 hh k (by rw[HNL.out];exact hkn)) hno⟩,HT.out.trans (Turn.alloc _ _ _) (fun _ _ h=>h)⟩);have HAT:Hid (pickAt s l k↔0≤p1∧p1<(N:Int)∧p2<2 ^ (s.size / 64)∧∀i,i<k→(l.getD i (0,0)).1≠p1):=hid (by unfold pickAt;rw[hpq,HN.out]);have HPQ:=hid hpq;have p0:(0:Int)≤(k:Int):=by omega
   have p1':(k:Int)<(n:Int):=by omega
   have q0':=HQ.out wr HT.out;clear hpq hat;by_cases h1:p1<0
   ·have HF:=hid (HNO.out (fun h=>absurd (HAT.out.1 h).1 (by omega)));go_wp2;go_ret
    exact HF.out
   ·obtain⟨j,rfl⟩:∃j:Nat,p1=(j:Int):=⟨p1.toNat,by omega⟩;by_cases h2:(N:Int)≤(j:Int)
    ·have HF:=hid (HNO.out (fun h=>absurd (HAT.out.1 h).2.1 (by omega)));go_wp2;go_ret
     exact HF.out
    ·have hjN:j<N:=by omega
     have hne:w.heap.size≠wr.heap.size:=Nat.ne_of_lt HLT.out;have HSZ:Hid (s.size / 64*64=s.size):=hid (by have:=HB64.out;omega);cases hm:picked l k j with
     |true=>
      have hmk0:=(HMK.out j hjN).1;rw[hm]at hmk0;have hmk1:∀O:Obj,(wr.alloc O).cell? ⟨w.heap.size,j,none⟩=some (.bool true):=fun O=>(Turn.alloc wr O nowhere).cell hmk0 id
      clear hmk0;have HF:=hid (HNO.out (fun h=>by
       obtain⟨i,hi,_,he⟩:=(Qd3 l k j).1 hm;exact(HAT.out.1 h).2.2.2 i hi he))
      go_wp2;go_ret
      exact HF.out
     |false=>
      have hmk0:=(HMK.out j hjN).1;rw[hm]at hmk0;have hmk1:∀O:Obj,(wr.alloc O).cell? ⟨w.heap.size,j,none⟩=some (.bool false):=fun O=>(Turn.alloc wr O nowhere).cell hmk0 id
      have hmf:∀O:Obj,(wr.alloc O).frozen? ⟨w.heap.size,j,none⟩=false:=fun O=>by rw[(Turn.alloc wr O nowhere).frozen (p:=⟨w.heap.size,j,none⟩) HLT.out id];exact(HMK.out j hjN).2
      have q0a:∀O:Obj,(wr.alloc O).cell? ⟨g,0,none⟩=some (.int .i64 (s.size:Int)):=fun O=>(Turn.alloc wr O nowhere).cell q0' id
      clear hmk0;cases hd:decide (2 ^ (s.size / 64)≤p2) with
      |true=>
       have HF:=hid (HNO.out (fun h=>absurd (HAT.out.1 h).2.2.1 (by have:=of_decide_eq_true hd;omega)));obtain⟨m,hd2,hl2⟩:=Qgk p2 (s.size / 64) hs3 true hd.symm;rw[HSZ.out]at hd2;have HL:=hid hl2;clear hl2;clear hd;go_wp2_with fail
       go_quiet ((go_at_call 181;exact Calls.quiet_of_same (HL.out _)))
       go_wp2;go_ret
       exact HF.out.drewN _
      |false=>
       obtain⟨m,hd2,hl2⟩:=Qgk p2 (s.size / 64) hs3 false hd.symm;rw[HSZ.out]at hd2;have HL:=hid hl2;clear hl2;have HOK:Hid (pickAt s l k):=hid (HAT.out.2 ⟨by omega,by omega,by have:=of_decide_eq_false hd;omega,fun i hi he=>by
        have:picked l k j=true:=(Qd3 l k j).2 ⟨i,hi,by rw[HNL.out];omega,he⟩;rw[hm]at this;cases this⟩)
       have HMS:Hid (∀i,i<N→picked l (k+1) i=if i=j then true else picked l k i):=hid (fun i _=>by
        rw[Qhm l k i (by rw[HNL.out];exact hkn),HPQ.out];by_cases e:i=j
        ·subst e;simp
        ·rw[if_neg e];have:((j:Int)==(i:Int))=false:=beq_eq_false_iff_ne.2 (by omega);simp[this])
       clear hd;go_wp2_with fail
       go_quiet ((go_at_call 181;exact Calls.quiet_of_same (HL.out _)))
       go_wp2;have HT4:Hid (Turn w (((wr.alloc (.cells #[.int .i64 (j:Int),.int .u64 (p2:Int)] 94)).drewN nq).setCell ⟨w.heap.size,j,none⟩ (.bool true)) nowhere):=hid
        (((HT.out.trans (Turn.alloc _ _ nowhere) (fun _ _ h=>h)).trans (Turn.drewN _ _ nowhere) (fun _ _ h=>h)).trans (Turn.setCell _ ⟨w.heap.size,j,none⟩ _ (S:=(·=w.heap.size)) rfl) (fun i hi e=>by omega))
       have HM4:Hid (Marks (((wr.alloc (.cells #[.int .i64 (j:Int),.int .u64 (p2:Int)] 94)).drewN nq).setCell ⟨w.heap.size,j,none⟩ (.bool true)) w.heap.size N (picked l (k+1))):=hid (by
        have h1:=((HMK.out.turn ((Turn.alloc wr (.cells #[.int .i64 (j:Int),.int .u64 (p2:Int)] 94) nowhere).trans (Turn.drewN _ nq nowhere) (fun _ _ h=>h)) id HLT.out).set j hjN true);exact fun i hi=>by rw[HMS.out i hi];exact h1 i hi)
       have HL4:Hid (w.heap.size<(((wr.alloc (.cells #[.int .i64 (j:Int),.int .u64 (p2:Int)] 94)).drewN nq).setCell ⟨w.heap.size,j,none⟩ (.bool true)).heap.size):=hid
        (World.block_lt_of_cell? _ ⟨w.heap.size,j,none⟩ (HM4.out j hjN).1)
       have HG4:Hid (∀i,i<k+1→pickAt s l i):=hid (fun i hi=>by
        by_cases e:i=k
        ·subst e;exact HOK.out
        ·exact HG.out i (by omega))
       go_roundw
       case rel=>exact⟨k+1,by omega,by go_num,HG4,HT4,HM4,HL4⟩
       case measure=>simp[intOf];omega
  ·obtain rfl:k=n:=by omega
   have HF:Hid (Told s l w (.returned (.bool true)) wr):=hid ⟨true,rfl,by rw[Qd4,HNL.out];simp;exact HG.out,HT.out⟩;go_wp2;go_ret
   exact HF.out
def CrashNo(w:World)(e:Ending)(w':World):Prop:=e=.returned (.tuple #[.pointer none,.int .i64 2])∧Turn w w' nowhere
def CrashYes(s:St)(l:List (Int×Nat))(w:World)(e:Ending)(w':World):Prop:=
 ∃g b,e=.returned (.tuple #[.pointer (some ⟨g,0,none⟩),.int .i64 0])∧Dev w' g b (.slice none 0 0) (s.crash l)∧w.heap.size≤g∧w.heap.size≤b∧Turn w w' nowhere
theorem Qke(g b:Nat)(P:Value)(s:St)(pa:Option Addr)(n c:Nat)(l:List (Int×Nat))(w:World)(h:Dev w g b P s)(hp:PSeg w pa n c l)(hn:¬picksOk s l) :
  Calls Tryz.prog 62 #[.pointer (some ⟨g,0,none⟩),.slice pa n c] w (CrashNo w):=by
 obtain⟨c',_,_,q0,q1,q2,q3,q4,q5,q6⟩:=h.cells;have HV:=hid (Qt g w q6);have HC:=hid (QhA g b P s pa n c l w h hp);have HN:=hid hn;clear h hp hn;go_enter Tryz.func62,Tryz.ntmps62
 go_wp2_with fail
 refine HV.out.mono ?_;rintro e w' ⟨rfl,rfl⟩;go_wp2_with fail
 refine HC.out.mono ?_;rintro e w1 ⟨ok,rfl,hok,ht⟩;obtain rfl:ok=false:=Bool.eq_false_iff.2 (fun e=>HN.out (hok.1 e));have HT:=hid ht;clear hok ht;go_wp2;go_ret2
 exact⟨rfl,HT.out⟩
def St.part(s:St)(l:List (Int×Nat))(k:Nat):St:=St.fresh s.size s.blocks (puts s (l.take k))
theorem Qjw(s:St)(l:List (Int×Nat)):s.part l 0=St.fresh s.size s.blocks s.dur:=by simp[St.part,puts]
theorem QkK(s:St)(l:List (Int×Nat)):s.part l l.length=s.crash l:=by simp[St.part,St.crash]
theorem Qjv(s:St)(l:List (Int×Nat))(k:Nat)(hk:k<l.length)(p1:Int)(p2 x1:Nat)(x2:List Int)(hp:l.getD k (0,0)=(p1,p2))(hx:s.pend.getD p1.toNat (0,[])=(x1,x2)) :
  s.part l (k+1)={ s.part l k with dur:=(s.part l k).dur.set x1 (mix p2 ((s.part l k).dur.getD x1 []) x2) }:=by
 unfold St.part;rw[QjC l k hk,hp];unfold put;rw[hx]
 rfl
theorem crash_yes (g b:Nat) (P:Value) (s:St) (pa:Option Addr) (n c:Nat) (l:List (Int×Nat)) (w:World) (h:Dev w g b P s) (hp:PSeg w pa n c l) (hpo:picksOk s l) (hT:T64 w) :
    Calls Tryz.prog 62 #[.pointer (some ⟨g,0,none⟩),.slice pa n c] w (CrashYes s l w):=by
  obtain⟨c',hc1,hc2,q0,q1,q2,q3,q4,q5,q6⟩:=h.cells
  have HV:=hid (Qt g w q6)
  have HC:=hid (QhA g b P s pa n c l w h hp)
  have HOK:=hid hpo
  have HD:=hid h
  have HP:=hid hp
  have HT:=hid hT
  have hlb:=h.lt b (.inr (.inl rfl))
  have hlg:=h.lt g (.inl rfl)
  have hncap:=Nat.le_trans hp.le hp.cap
  unfold maxLen at hncap
  have HNL:=hid hp.len
  have HFO:=hid hp.form
  clear h hp hpo hT
  go_enter Tryz.func62,Tryz.ntmps62
  go_wp2_with fail
  refine HV.out.mono ?_
  rintro e w' ⟨rfl,rfl⟩
  go_wp2_with fail
  refine HC.out.mono ?_
  rintro e w1 ⟨ok,rfl,hok,ht⟩
  obtain rfl:ok=true:=hok.2 HOK.out
  have r0:=ht.cell q0 id
  have r1:=ht.cell q1 id
  have r2:=ht.cell q2 id
  have HT1:=hid ht
  have HRG:Hid (∀W,Turn w1 W nowhere→Reg W b 0 s.dur.flatten):=hid (fun W k=>HD.out.reg.turn (ht.trans k (fun _ _ h=>h)) id)
  clear hok ht
  have HLN:=hid HD.out.ok.len
  have HOK0:Hid (St.fresh s.size s.blocks s.dur).Ok:=hid (Qec HD.out.ok.lo HD.out.ok.hi HD.out.ok.by64 HD.out.ok.blo HD.out.ok.bhi HD.out.ok.dblk HD.out.ok.dlen)
  have hsm:s.size*s.blocks≤4096*4096:=Nat.mul_le_mul HD.out.ok.hi HD.out.ok.bhi
  go_wp2_with fail
  go_region_held3 (fun w'=>w'.cell? ⟨g,0,none⟩=some (.int .i64 (s.size:Int))∧w'.cell? ⟨g,1,none⟩=some (.int .i64 (s.blocks:Int))∧w'.cell? ⟨g,2,none⟩=some (.slice (some ⟨b,0,none⟩) (s.size*s.blocks) c')) (go_keep)
    (first
      | (go_at_call 134
         (with_reducible refine(QhQ b (s.size*s.blocks) c' s.dur.flatten _ ?hs ?hn).mono ?_)
         case hs=>rw[←HLN.out];exact(HRG.out _ (Turn.drew _ _)).seg (by rw[HLN.out];exact hc1) hc2
         case hn=>omega
         rintro e w2 ⟨b',cb,rfl,hr2,hb2,hc3,hc4,ht2⟩
         have r0b:=ht2.cell (p:=⟨g,0,none⟩) (by exact r0) id
         have r1b:=ht2.cell (p:=⟨g,1,none⟩) (by exact r1) id
         have r2b:=ht2.cell (p:=⟨g,2,none⟩) (by exact r2) id)
      | (go_at_call 76
         (with_reducible refine(Qa3 s.size s.blocks b' cb s.dur _ ?hr hc3 hc4 HOK0.out).mono ?_)
         case hr=>exact hr2
         rintro e w3 ⟨g',rfl,hd3,hg3,ht3⟩
         have r0c:=ht3.cell (p:=⟨g,0,none⟩) (by exact r0b) id
         have r1c:=ht3.cell (p:=⟨g,1,none⟩) (by exact r1b) id
         have r2c:=ht3.cell (p:=⟨g,2,none⟩) (by exact r2b) id)
      |fail)
  have hsz1:=HT1.out.size
  have HD3:Hid (Dev w3 g' b' (.slice none 0 0) (s.part l 0)):=hid (by rw[Qjw];exact hd3)
  have HT3:Hid (Turn w w3 nowhere):=hid (((HT1.out.trans (Turn.drew _ nowhere) (fun _ _ h=>h)).trans ht2 (fun _ _ h=>h)).trans ht3 (fun _ _ h=>h))
  have hgw:w.heap.size≤g':=Nat.le_trans (Nat.le_trans hsz1 ht2.size) hg3
  have hbw:w.heap.size≤b':=Nat.le_trans hsz1 hb2
  clear hd3 ht2 ht3 hr2 r0b r1b r2b r0c r1c r2c hb2 hg3 hsz1
  go_wp2
  go_loopw [31] (fun sv wr=>∃k:Nat,k≤n∧sv=.int .i64 (k:Int)∧Hid (Dev wr g' b' (.slice none 0 0) (s.part l k))∧Hid (Turn w wr nowhere)) (fun sv _=>n-(intOf sv).toNat)
  case atStart=>exact⟨0,Nat.zero_le _,rfl,HD3,HT3⟩
  case round =>
    obtain⟨k,hk,rfl,HDK,HTK⟩:=hrel
    by_cases hkn:k<n
    · obtain ⟨B,O,rfl,hat⟩:=HFO.out (by omega)
      have hat:=hat k hkn
      have hkl:k<l.length:=by rw[HNL.out];exact hkn
      have hok:=HOK.out k hkl
      obtain⟨⟨p1,p2⟩,hpq⟩:∃q:Int×Nat,l.getD k (0,0)=q:=⟨_,rfl⟩
      rw[hpq]at hat hok
      obtain⟨ho1,ho2,ho3,_⟩:=hok
      obtain⟨j,rfl⟩:∃j:Nat,p1=(j:Int):=⟨p1.toNat,by have:0≤p1:=ho1;omega⟩
      have hj:j<s.pend.length:=by have:(j:Int)<s.pend.length:=ho2;omega
      obtain⟨⟨x1,x2⟩,hxq⟩:∃q:Nat×List Int,s.pend.getD j (0,[])=q:=⟨_,rfl⟩
      have hst:=Qjv s l k hkl (j:Int) p2 x1 x2 hpq (by rw[Int.toNat_natCast];exact hxq)
      have hpb:=HD.out.ok.pblk _ (List.getElem_mem hj)
      have hpe:s.pend.getD j (0,[])=s.pend[j]:=by simp[List.getD,hj]
      rw[←hpe,hxq]at hpb
      obtain⟨b1,b2,b3⟩:=hpb
      obtain⟨pp,pc,rfl,hpc1,hpc2,hpcell,_⟩:=Qce HD.out.row (by omega)
      have hwat:=Qb8 s.pend j hj
      rw[hxq,Nat.mul_comm]at hwat
      have c0:wr.cell? ⟨B,O+k*2,none⟩=some (.int .i64 (j:Int)):=HTK.out.cell hat.1 id
      have c1:wr.cell? ⟨B,O+k*2+1,none⟩=some (.int .u64 (p2:Int)):=HTK.out.cell hat.2 id
      have y0:∀O:Obj,(wr.alloc O).cell? ⟨pp,j*2,none⟩=some (.int .i64 (x1:Int)):=fun O=>(HTK.out.trans (Turn.alloc wr O nowhere) (fun _ _ h=>h)).cell (hpcell _ _ hwat.1) id
      obtain⟨T,hTT⟩:∃T,T=strOfNums x2:=⟨_,rfl⟩
      have y1:∀O:Obj,(wr.alloc O).cell? ⟨pp,j*2+1,none⟩=some (.string T):=fun O=>by rw[hTT];exact(HTK.out.trans (Turn.alloc wr O nowhere) (fun _ _ h=>h)).cell (hpcell _ _ hwat.2) id
      have HTT:=hid hTT
      have HST:=hid hst
      have HB1:=hid b1
      have HB2:=hid b2
      have HB3:=hid b3
      have HO3:=hid ho3
      have q3a:∀O:Obj,(wr.alloc O).cell? ⟨g,3,none⟩=some (.slice (some ⟨pp,0,none⟩) s.pend.length pc):=fun O=>(HTK.out.trans (Turn.alloc wr O nowhere) (fun _ _ h=>h)).cell q3 id
      have p0:(0:Int)≤(k:Int):=by omega
      have p1':(k:Int)<(n:Int):=by omega
      have p2':(0:Int)≤(j:Int):=by omega
      have p3':(j:Int)<(s.pend.length:Int):=by omega
      clear hat hkl hpq hst hpe hwat hTT hxq b1 b2 b3 ho1 ho2 ho3 hpc1 hpc2 hpcell
      go_wp2
      have k0:(wr.alloc (.cells #[.int .i64 (j:Int),.int .u64 (p2:Int)] 94)).cell? ⟨wr.heap.size,0,none⟩=some (.int .i64 (j:Int)):=by simp[go_sem]
      have k1:(wr.alloc (.cells #[.int .i64 (j:Int),.int .u64 (p2:Int)] 94)).cell? ⟨wr.heap.size,1,none⟩=some (.int .u64 (p2:Int)):=by simp[go_sem]
      have q3b:=q3a (.cells #[.int .i64 (j:Int),.int .u64 (p2:Int)] 94)
      have y0b:=y0 (.cells #[.int .i64 (j:Int),.int .u64 (p2:Int)] 94)
      have y1b:=y1 (.cells #[.int .i64 (j:Int),.int .u64 (p2:Int)] 94)
      go_region_held3 (fun w'=>w'.cell? ⟨g,3,none⟩=some (.slice (some ⟨pp,0,none⟩) s.pend.length pc)∧w'.cell? ⟨wr.heap.size,0,none⟩=some (.int .i64 (j:Int))∧w'.cell? ⟨pp,j*2,none⟩=some (.int .i64 (x1:Int))∧w'.cell? ⟨pp,j*2+1,none⟩=some (.string T)) (go_keep)
        (fail)
      have t0:((wr.alloc (.cells #[.int .i64 (j:Int),.int .u64 (p2:Int)] 94)).alloc (.cells #[.int .i64 (x1:Int),.string T] 159)).drew.cell? ⟨wr.heap.size+1,0,none⟩=some (.int .i64 (x1:Int)):=by simp[go_sem]
      have t1:((wr.alloc (.cells #[.int .i64 (j:Int),.int .u64 (p2:Int)] 94)).alloc (.cells #[.int .i64 (x1:Int),.string T] 159)).drew.cell? ⟨wr.heap.size+1,1,none⟩=some (.string T):=by simp[go_sem]
      have t2:((wr.alloc (.cells #[.int .i64 (j:Int),.int .u64 (p2:Int)] 94)).alloc (.cells #[.int .i64 (x1:Int),.string T] 159)).drew.cell? ⟨wr.heap.size,1,none⟩=some (.int .u64 (p2:Int)):=by simp[go_sem]
      have tx:Turn wr ((wr.alloc (.cells #[.int .i64 (j:Int),.int .u64 (p2:Int)] 94)).alloc (.cells #[.int .i64 (x1:Int),.string T] 159)).drew nowhere:=((Turn.alloc _ _ nowhere).trans (Turn.alloc _ _ nowhere) (fun _ _ h=>h)).trans (Turn.drew _ nowhere) (fun _ _ h=>h)
      clear k0 k1 q3b y0b y1b q3a y0 y1 c0 c1
      generalize ((wr.alloc (.cells #[.int .i64 (j:Int),.int .u64 (p2:Int)] 94)).alloc (.cells #[.int .i64 (x1:Int),.string T] 159)).drew=X at *
      have HTX:=hid tx
      have HDX:Hid (∀W,Turn X W nowhere→Dev W g' b' (.slice none 0 0) (s.part l k)):=hid (fun W k=>HDK.out.turn (tx.trans k (fun _ _ h=>h)) (fun _ _=>id))
      obtain⟨cur,hcur⟩:∃cur,cur=(s.part l k).dur.getD x1 []:=⟨_,rfl⟩
      have hcl:=Qc5 HDK.out.ok.dblk (b:=x1) (by rw[HDK.out.ok.dlen];exact HB1.out)
      rw[←hcur]at hcl
      have HCL:Hid (cur.length=s.size∧IsB cur):=hid hcl
      have HRX:Hid (∀W,Turn X W nowhere→Reg W b' (x1*s.size) cur):=hid (fun W k=>by
        have:=(HDX.out W k).reg.block (n:=s.size) (by have:=HD.out.ok.lo;omega) HDK.out.ok.dblk x1 (by rw[HDK.out.ok.dlen];exact HB1.out)
        rw[←hcur]at this
        exact this)
      have hbt:b'≠0:=fun e=>by
        have:=World.block_lt_of_cell? w _ (HT.out 0 (by decide))
        have:0<w.heap.size:=this
        omega
      have HPS:Hid (∀W cc,Turn X W nowhere→(s.part l k).size≤cc→Calls Tryz.prog 135 #[.slice (some ⟨b',x1*(s.part l k).size,none⟩) (s.part l k).size cc,.string T,.int .u64 (p2:Int)] W (Mixed b' (x1*s.size) s.size (mix p2 cur x2) W)):=hid (fun W cc k hcc=>by
        rw[HTT.out]
        show Calls Tryz.prog 135 #[.slice (some ⟨b',x1*s.size,none⟩) s.size cc,.string (strOfNums x2),.int .u64 (p2:Int)] W _
        exact putsec_any b' (x1*s.size) s.size cc p2 cur x2 W (HRX.out W k) HCL.out.1 HB2.out HB3.out hcc HD.out.ok.hi HD.out.ok.by64 HO3.out (((HT.out.turn HTK.out id).turn tx id).turn k id) hbt)
      have HST2:Hid (s.part l (k+1)={ s.part l k with dur:=(s.part l k).dur.set x1 (mix p2 cur x2) }):=hid (by rw[hcur];exact HST.out)
      have hlx:wr.heap.size+1≠b':=fun e=>by have:=HDK.out.lt b' (.inr (.inl rfl));omega
      have hlx':wr.heap.size≠b':=fun e=>by have:=HDK.out.lt b' (.inr (.inl rfl));omega
      clear hcur hcl hbt tx hlb hlg
      go_wp2
      go_region_held3 (fun w'=>w'.cell? ⟨wr.heap.size+1,0,none⟩=some (.int .i64 (x1:Int))∧w'.cell? ⟨wr.heap.size+1,1,none⟩=some (.string T)∧w'.cell? ⟨wr.heap.size,1,none⟩=some (.int .u64 (p2:Int))) (go_keep)
        (first
          | (go_at_call 132
             (with_reducible refine(QfQ g' b' (.slice none 0 0) (s.part l k) x1 _ ?hd ?hb).mono ?_)
             case hd=>exact HDX.out _ (Turn.drew _ _)
             case hb=>exact HB1.out
             rintro e w4 ⟨cc,m,rfl,hcc1,hcc2,rfl⟩)
          | (go_at_call 135
             (with_reducible refine(HPS.out _ cc ?hk hcc1).mono ?_)
             case hk=>exact Turn.drewN X (1+m) nowhere
             rintro e w5 ⟨rfl,hr5,ho5⟩
             have t0c:=ho5.turn.cell (p:=⟨wr.heap.size+1,0,none⟩) (by exact t0) hlx
             have t1c:=ho5.turn.cell (p:=⟨wr.heap.size+1,1,none⟩) (by exact t1) hlx
             have t2c:=ho5.turn.cell (p:=⟨wr.heap.size,1,none⟩) (by exact t2) hlx'
             have HD5:Hid (Dev w5 g' b' (.slice none 0 0) (s.part l (k+1))):=hid (by
               rw[HST2.out]
               exact(HDX.out (X.drewN (1+m)) (Turn.drewN X (1+m) nowhere)).relay x1 HB1.out _ (by rw[QdR];exact HCL.out.1) (QlO _ HCL.out.2 HB3.out (by rw[HB2.out,HCL.out.1])) hr5 ho5)
             have HT5:Hid (Turn w w5 nowhere):=hid (((HTK.out.trans HTX.out (fun _ _ h=>h)).trans (Turn.drewN X (1+m) nowhere) (fun _ _ h=>h)).trans ho5.turn (fun i hi e=>by omega))
             clear hr5 ho5)
          |fail)
      go_wp2
      go_roundw
      case rel=>exact⟨k+1,by omega,by go_num,HD5,HT5⟩
      case measure=>simp[intOf];omega
    · obtain rfl:k=n:=by omega
      have HF:Hid (CrashYes s l w (.returned (.tuple #[.pointer (some ⟨g',0,none⟩),.int .i64 0])) wr):=hid ⟨g',b',rfl,by rw[←QkK,HNL.out];exact HDK.out,hgw,hbw,HTK.out⟩
      go_wp2
      go_ret2
      exact HF.out
structure Held (w0 w:World) (g b:Nat) (P:Value) (s:St):Prop where
 dev:Dev w g b P s
 new:∀k,fp g b P k→w0.heap.size≤k
 turn:Turn w0 w nowhere
theorem Held.go{w0 w w':World}{g b:Nat}{P:Value}{s:St}(h:Held w0 w g b P s)(k:Turn w w' nowhere):Held w0 w' g b P s:=
 ⟨h.dev.turn k (fun _ _=>id),h.new,h.turn.trans k (fun _ _ h=>h)⟩
theorem Held.wrote{w0 w w':World}{g b:Nat}{P:Value}{s:St}{r:Int×St}{e:Ending}(h:Held w0 w g b P s)(k:Wrote g b P r w e w') :
  ∃P',e=.returned (.int .i64 r.1)∧Held w0 w' g b P' r.2∧Turn w w' (fp g b P)∧∀k,fp g b P' k→fp g b P k∨w.heap.size≤k:=by
 obtain⟨P',he,hd,ht,hg⟩:=k;refine⟨P',he,⟨hd,fun k hk=>?_,h.turn.trans ht (fun i hi hf=>?_)⟩,ht,hg⟩
 ·rcases hg k hk with h1|h1
  ·exact h.new k h1
  ·exact Nat.le_trans h.turn.size h1
 ·have:=h.new i hf;omega
theorem Held.fused{w0 w w':World}{g b:Nat}{P:Value}{s:St}{n:Int}{e:Ending}(h:Held w0 w g b P s)(k:Fused g b P s w n e w') :
  e=.returned (.tuple #[])∧Held w0 w' g b P (s.setFuse n)∧Turn w w' (·=g):=by
 obtain⟨he,hd,ht⟩:=k;exact⟨he,⟨hd,h.new,h.turn.trans ht (fun i hi hf=>by have:=h.new g (.inl rfl);omega)⟩,ht⟩
theorem Qid{w0 w w':World}{s:St}{l:List (Int×Nat)}{e:Ending}(k0:Turn w0 w nowhere)(k:CrashYes s l w e w') :
  ∃g b,e=.returned (.tuple #[.pointer (some ⟨g,0,none⟩),.int .i64 0])∧Held w w' g b (.slice none 0 0) (s.crash l)∧Held w0 w' g b (.slice none 0 0) (s.crash l)∧Turn w w' nowhere:=by
 obtain⟨g,b,he,hd,h1,h2,ht⟩:=k;have:=k0.size;have hn:∀k,fp g b (.slice none 0 0) k→w.heap.size≤k:=fun k hk=>by
  rcases hk with rfl|rfl|hk
  ·omega
  ·omega
  ·simp[Value.ownBlock]at hk
 exact⟨g,b,he,⟨hd,hn,ht⟩,⟨hd,fun k hk=>Nat.le_trans this (hn k hk),k0.trans ht (fun _ _ h=>h)⟩,ht⟩
end Dv
end Go.Proofs.YtbbbocoliandcaaGreatDoor
