/- Parts of the proof. -/
import Derived.Lib.SmallJoins
import Derived.Test.YtljanfnhmhimiaaGreatScE
import Derived.Test.YtljanfnhmhimiaaGreatScF
set_option maxRecDepth 100000
set_option maxHeartbeats 8000000
open Go.Lib (hid)
namespace Go.Proofs.YtljanfnhmhimiaaGreat
namespace In
open Go.RowKit Go.Joins
open Oct (putB ofB varB readV Rd ReadN)
open Dv (Turn nowhere)
theorem QB{l:List Int}(h:Oct.IsB l)(n:Nat):Oct.IsB (l.take n):=fun x hx=>h x (List.mem_of_mem_take hx)
theorem Qn{l:List Int}(h:Oct.IsB l)(n:Nat):Oct.IsB (l.drop n):=fun x hx=>h x (List.mem_of_mem_drop hx)
theorem QaR{l m:List Int}(h:Oct.IsB l)(k:Oct.IsB m):Oct.IsB (l++m):=fun x hx=>(List.mem_append.1 hx).elim (h x) (k x)
theorem readV_var (n : Nat) (r : List Int) (h : n < 18446744073709551616) : readV 0 0 (varB 9 n ++ r) = ((n : Int), 0, (varB 9 n).length) := by
  have := Oct.QkL        9 0 0 n r rfl (by omega) (by have : (2 : Int) * 128 ^ 9 = 18446744073709551616 := by decide
                                                      omega) (by omega)
  rw [this]; simp
theorem QbQ(n:Nat)(r:List Int):(varB 9 n++r).drop (varB 9 n).length=r:=List.drop_left
theorem QQ(b:List Int)(hb:Oct.IsB b)(x:Int)(n:Nat)(h:readV 0 0 b=(x,0,n)):0≤x∧x<18446744073709551616∧b=varB 9 x++b.drop n:=by
 obtain⟨v,v0,v1,hx,_,_,_,hvb⟩:=Oct.Qlb b 9 0 0 x n hb rfl h;have e:x=v:=by rw[hx];simp
 have:(2:Int)*128 ^ 9=18446744073709551616:=by decide
 refine⟨by omega,by omega,?_⟩;rw[e,hvb,Nat.sub_zero,List.take_append_drop]
theorem QaY      (n : Nat) (h : n < 18446744073709551616) : Oct.IsB (varB 9 n) :=
  Oct.QaY      9 n (by omega) (by have : (256 : Int) * 128 ^ 9 = 2361183241434822606848 := by decide
                                  omega)
theorem oseg{w:World}{a:Option Addr}{n c:Nat}{l:List Int}(h:Bs.Seg w a n c l):Oct.Seg w a n c l:=⟨h.len,h.le,h.cap,h.nil_,h.at_⟩
theorem bseg{w:World}{a:Option Addr}{n c:Nat}{l:List Int}(h:Oct.Seg w a n c l):Bs.Seg w a n c l:=⟨h.len,h.le,h.cap,h.nil_,h.at_⟩
theorem below_grown{B:Nat}{w w':World}(h:w.grownBy w' none)(hB:B≤w.heap.size):Below B w w':=(Below.refl B w).grown h hB (fun _ e=>by cases e)
theorem Qf{B B':Nat}{w w':World}(h:Below B w w')(hB:B'≤B):Below B' w w':=⟨h.os,h.tape,h.output,h.size,fun k hk=>h.block k (Nat.lt_of_lt_of_le hk hB)⟩
theorem QY{w w':World}{base e s n:Nat}{v:Value}{xs:List Value}(h:w.ownsRow base e s v n xs)(hg:w.grownBy w' none):w'.ownsRow base e s v n xs:=
 h.kept hg (by cases hv:v.ownBlock <;> simp)
theorem Qpy{n:Nat}(h:n≤65536):IntKind.u64.wrap (n:Int)=(n:Int):=by rw[IntKind.wrap_u64];omega
def NewR2(w:World)(l:List Int)(e:Ending)(w':World):Prop:=
 ∃b g,e=.returned (.pointer (some ⟨b,0,none⟩))∧w.heap.size≤b∧w.heap.size≤g∧b<w'.heap.size∧g<w'.heap.size∧Rd w' b g l∧w.grownBy w' none
theorem Qah(a:Option Addr)(n c:Nat)(l:List Int)(w:World)(hs:Oct.Seg w a n c l)(hn:n≤140737488355328) :
  Calls Tryz.prog 59 #[.slice a n c] w (NewR2 w l):=by
 have HA:=hid (Oct.Qfi a none n c 0 0 l [] w hs (Oct.Seg.nil w) (by omega));go_enter Tryz.func59,Tryz.ntmps59
 go_wp2_with fail
 refine HA.out.mono ?_;rintro e w1 ⟨rfl,hown,hg⟩;rw[List.append_nil,Nat.add_zero]at hown;have hl:=hs.len;have hb:w.heap.size<w1.heap.size:=(hown.lt _ rfl).2;have hfin:NewR2 w l (.returned (.pointer (some ⟨w1.heap.size,0,none⟩))) (w1.alloc (.cells #[.slice (some ⟨w.heap.size,0,none⟩) n n,.pointer (some ⟨w1.heap.size,0,none⟩)] 163)):=by
  subst hl;have h1:=Oct.Seg.own (hown.alloc (.cells #[.slice (some ⟨w.heap.size,0,none⟩) l.length l.length,.pointer (some ⟨w1.heap.size,0,none⟩)] 163));refine⟨w1.heap.size,w.heap.size,rfl,hg.size,Nat.le_refl _,by simp,by simp;omega,⟨by omega,⟨0,l.length,?_,Nat.le_refl _,h1.cap,?_⟩,?_,?_⟩,Oct.grownBy_trans hg (World.grownBy_alloc w1 _ none) (fun _ e=>by cases e)⟩
  ·exact World.cell?_alloc_at _ _ _ _ rfl
  ·intro j hj;have:=h1.at_ _ rfl j (.int .u8 (l.getD j 0)) (by simp[List.getD,hj]);rw[Addr.add_lit]at this;exact this
  ·exact World.cell?_alloc_at _ _ _ _ rfl
  ·exact World.frozen?_alloc_at _ _ _ _ rfl
 have HF:=hid hfin;clear hfin hown hg hs HA;go_wp2;go_ret
 exact HF.out
theorem Turn.rd{w w':World}{b g:Nat}{l:List Int}{S:Nat→Prop}(k:Turn w w' S)(h:Rd w b g l)(h1:¬S b)(h2:¬S g):Rd w' b g l:=by
 obtain⟨o,c,h0,hle,hc,hj⟩:=h.cells;have lt:=World.block_lt_of_cell? w _ h0;refine⟨h.ne,⟨o,c,k.cell h0 h1,hle,hc,fun j hjl=>k.cell (hj j hjl) h2⟩,k.cell h.self h1,?_⟩;exact(k.frozen (p:=⟨b,0,none⟩) lt h1).trans h.free
def At(b:Nat):Nat→Prop:=fun i=>i=b
theorem Qg{w w':World}{b:Nat}(h:w.grownBy w' (some b)):Turn w w' (At b):=Turn.QD h (fun i e _=>by cases e;rfl)
theorem Qaw{w w':World}{g:Nat}(h:w.grownBy w' (some g)):Turn w w' (At g):=Turn.QD h (fun i e _=>by cases e;rfl)
theorem Qe{a w w':World}{b:Nat}{S:Nat→Prop}(h:Turn a w (At b))(k:Turn w w' S)(hS:∀i,S i→i=b∨a.heap.size≤i):Turn a w' (At b):=
 h.trans k (fun i hi hs=>by rcases hS i hs with e|e;exact e;omega)
theorem Qbp{w w':World}{base e s n b g c:Nat}{xs:List Value}(h:w.ownsRow base e s (.slice (some ⟨g,0,none⟩) n c) n xs)(hg:w.grownBy w' (some b))(hne:g≠b):w'.ownsRow base e s (.slice (some ⟨g,0,none⟩) n c) n xs:=
 h.kept hg (.inr (by simp[Value.ownBlock];exact hne))
theorem Qd{w w':World}{S:Nat→Prop}(h:Below w.heap.size w w'):Turn w w' S:=⟨h.os,h.tape,h.output,h.size,fun i hi _=>h.block i hi⟩
theorem own_below{w w':World}{base e s n:Nat}{v:Value}{xs:List Value}(h:w.ownsRow base e s v n xs)(hb:Below w.heap.size w w'):w'.ownsRow base e s v n xs:=
 QY h (Bs.grown_of hb)
theorem Qh{w w1 w2:World}{b:Nat}(h:Below w.heap.size w w1)(k:Turn w1 w2 (At b))(hb:w.heap.size≤b):Below w.heap.size w w2:=
 ⟨k.os.trans h.os,k.tape.trans h.tape,k.output.trans h.output,Nat.le_trans h.size k.size,fun i hi=>(k.block i (Nat.lt_of_lt_of_le hi h.size) (fun e=>by unfold At at e;omega)).trans (h.block i hi)⟩
theorem QG{w:World}{a:Option Addr}{n c:Nat}{l:List Int}(hs:Bs.Seg w a n c l)(hn:0<n):(convert 45 9 (.slice a n c)).run Tryz.prog w=.ok (.string (strOfNums l)) w:=by
 obtain⟨g,o,rfl,hc⟩:=hs.addr hn;exact run_convert_bytes_arg w 45 5 Tryz.underlying45 Tryz.underlying5 g o n c l hs.len (fun j hj=>by
  have:=hc j (by have:=hs.len;omega);rw[this]) 9 Tryz.underlying9
end In
namespace In
open Oct (putB ofB varB readV)
open Pk (wid putR getR IsU Fit sizeN)
open Is (IsI)
def u(v:Int):Int:=v % 18446744073709551616
def sg(v:Int):Int:=if v<9223372036854775808 then v else v-18446744073709551616
theorem u_bd(v:Int):0≤u v∧u v<18446744073709551616:=by unfold u;omega
theorem sg_u(v:Int)(h0:-9223372036854775808≤v)(h1:v≤9223372036854775807):sg (u v)=v:=by unfold sg u;split <;> omega
theorem u_sg(v:Int)(h0:0≤v)(h1:v<18446744073709551616):u (sg v)=v:=by unfold sg u;split <;> omega
theorem sg_bd(v:Int)(h0:0≤v)(h1:v<18446744073709551616):-9223372036854775808≤sg v∧sg v≤9223372036854775807:=by unfold sg;split <;> omega
def num8(v:Int):List Int:=putB 8 (u v)
theorem Qu(v:Int):(num8 v).length=8:=Oct.QdH 8 _
theorem Qex(v:Int):Oct.IsB (num8 v):=Oct.Qoq 8 _
theorem Qeg(v:Int):ofB (num8 v)=u v:=Oct.QnR 8 _ (u_bd v).1 (by have:=(u_bd v).2;exact this)
theorem Qnv:∀l:List Int,Oct.IsB l→putB l.length (ofB l)=l:=by
 intro l
 induction l with
 |nil=>intro _;rfl
 |cons c r ih=>
  intro h;have hc:=h c (by simp);have hr:=ih fun x hx=>h x (by simp[hx])
  simp only[List.length_cons,putB,ofB];rw[show(c+256*ofB r) % 256=c from by omega,show(c+256*ofB r) / 256=ofB r from by omega,hr]
theorem QaG(l:List Int)(h:Oct.IsB l)(hl:l.length=8):0≤ofB l∧ofB l<18446744073709551616:=by
 have:=Oct.QeU l h;rw[hl]at this;exact this
theorem Qft(l:List Int)(h:Oct.IsB l)(hl:l.length=8):num8 (sg (ofB l))=l:=by
 have hb:=QaG l h hl;unfold num8;rw[u_sg _ hb.1 hb.2];have:=Qnv l h
 rwa [hl]at this
theorem Qpl{l m:List Int}(h:IsI l)(k:IsI m):IsI (l++m):=fun x hx=>(List.mem_append.1 hx).elim (h x) (k x)
def plainB(l:List Int):List Int:=l.flatMap num8
theorem Qct(x:Int)(l:List Int):plainB (x :: l)=num8 x++plainB l:=by simp[plainB]
theorem QjL(l:List Int)(x:Int):plainB (l++[x])=plainB l++num8 x:=by simp[plainB]
theorem Qio(l:List Int):(plainB l).length=8*l.length:=by
 induction l with
 |nil=>rfl
 |cons x l ih=>rw[Qct,List.length_append,Qu,ih,List.length_cons];omega
theorem Qlu(l:List Int):Oct.IsB (plainB l):=by
 induction l with
 |nil=>intro x hx;cases hx
 |cons x l ih=>rw[Qct];exact QaR (Qex x) ih
def decP:Nat→List Int→Option (List Int×List Int)
 |0,b=>some ([],b)
 |n+1,b=>if b.length<8 then none else match decP n (b.drop 8) with
  |none=>none
  |some (l,r)=>some (sg (ofB (b.take 8)) :: l,r)
theorem QnP(l r:List Int)(h:IsI l):decP l.length (plainB l++r)=some (l,r):=by
 induction l with
 |nil=>rfl
 |cons x l ih=>
  have hx:=h x (by simp);rw[Qct,List.append_assoc,List.length_cons,decP,if_neg (by rw[List.length_append,Qu];omega)];have e1:(num8 x++(plainB l++r)).drop 8=plainB l++r:=by rw[List.drop_left' (Qu x)]
  have e2:(num8 x++(plainB l++r)).take 8=num8 x:=by rw[List.take_left' (Qu x)]
  rw[e1,e2,ih (fun y hy=>h y (by simp[hy])),Qeg,sg_u _ hx.1 hx.2]
theorem QlP:∀(n:Nat) (b l r:List Int),Oct.IsB b→decP n b=some (l,r)→b=plainB l++r∧l.length=n∧IsI l:=by
 intro n
 induction n with
 |zero=>intro b l r _ h;simp[decP]at h;obtain⟨rfl,rfl⟩:=h;exact⟨rfl,rfl,fun x hx=>by cases hx⟩
 |succ n ih=>
  intro b l r hb h;rw[decP]at h
  split at h
  ·cases h
  ·rename_i hl
   split at h
   ·cases h
   ·rename_i l' r' hd
    simp only[Option.some.injEq,Prod.mk.injEq]at h;obtain⟨rfl,rfl⟩:=h;obtain⟨h1,h2,h3⟩:=ih _ _ _ (Qn hb 8) hd;have ht:(b.take 8).length=8:=by rw[List.length_take];omega
    refine⟨?_,by rw[List.length_cons,h2],?_⟩
    ·rw[Qct,Qft _ (QB hb 8) ht,List.append_assoc,←h1,List.take_append_drop]
    ·intro x hx;rcases List.mem_cons.1 hx with rfl|hx
     ·have:=QaG _ (QB hb 8) ht;exact sg_bd _ this.1 this.2
     ·exact h3 x hx
theorem QhR(n k:Nat)(b acc rest:List Int)(hk:k<n)(h:decP n b=(decP (n-k) rest).map (fun p=>(acc++p.1,p.2))) :
  (rest.length<8→decP n b=none)∧(8≤rest.length→decP n b=(decP (n-(k+1)) (rest.drop 8)).map (fun p=>((acc++[sg (ofB (rest.take 8))])++p.1,p.2))):=by
 rw[show n-k=(n-(k+1))+1 from by omega,decP]at h;refine⟨fun hl=>by rw[h,if_pos hl];rfl,fun hl=>?_⟩;rw[h,if_neg (by omega)];cases decP (n-(k+1)) (rest.drop 8) with
 |none=>rfl
 |some p=>simp
def rle:List Int→List (Nat×Int)
 | []=>[]
 |x :: t=>match rle t with
  | []=>[(1,x)]
  |(k,y) :: r=>if x=y then(k+1,y) :: r else(1,x) :: (k,y) :: r
theorem Qos(x:Int)(t:List Int):∃k r,rle (x :: t)=(k,x) :: r:=by
 simp only[rle]
 split
 ·exact⟨1,[],rfl⟩
 ·split
  ·rename_i h;subst h;exact⟨_,_,rfl⟩
  ·exact⟨1,_,rfl⟩
theorem Qkn(x:Int)(t:List Int)(ht:t.head?≠some x):∀k,rle (List.replicate (k+1) x++t)=(k+1,x) :: rle t:=by
 intro k
 induction k with
 |zero=>
  show rle (x :: t)=_
  cases t with
  |nil=>rfl
  |cons y t=>
   obtain⟨k,r,h⟩:=Qos y t;rw[rle,h];simp only;rw[if_neg (fun e=>ht (by rw[e];rfl))]
 |succ k ih=>
  rw[List.replicate_succ,List.cons_append,rle,ih];simp
theorem Qn2(x:Int):∀t:List Int,∃k t',x :: t=List.replicate (k+1) x++t'∧t'.head?≠some x:=by
 intro t
 induction t with
 |nil=>exact⟨0,[],rfl,by simp⟩
 |cons y t ih=>
  by_cases h:y=x
  ·subst h;obtain⟨k,t',h1,h2⟩:=ih;exact⟨k+1,t',by rw[h1];rfl,h2⟩
  ·exact⟨0,y :: t,rfl,by simpa using h⟩
theorem Ql5(l:List Int)(i k:Nat)(hik:i<k)(hk:k≤l.length)(hs:∀j,i≤j→j<k→l.getD j 0=l.getD i 0)(he:k=l.length∨l.getD k 0≠l.getD i 0) :
  rle (l.drop i)=(k-i,l.getD i 0) :: rle (l.drop k):=by
 have e:l.drop i=List.replicate (k-i) (l.getD i 0)++l.drop k:=by
  apply List.ext_getElem?
  intro j;rw[List.getElem?_drop];by_cases hj:j<k-i
  ·rw[List.getElem?_append_left (by simpa using hj),List.getElem?_replicate,if_pos hj,←hs (i+j) (by omega) (by omega)];rw[List.getElem?_eq_getElem (by omega)];simp[List.getD,List.getElem?_eq_getElem (show i+j<l.length by omega)]
  ·rw[List.getElem?_append_right (by simpa using hj),List.length_replicate,List.getElem?_drop]
   congr 1
   omega
 obtain⟨m,hm⟩:∃m,k-i=m+1:=⟨k-i-1,by omega⟩;rw[e,hm];refine Qkn _ _ ?_ m;rcases he with h|h
 ·rw[List.drop_eq_nil_of_le (by omega)];simp
 ·intro hh;by_cases hkl:k<l.length
  ·rw[List.head?_drop,List.getElem?_eq_getElem hkl]at hh;apply h
   rw[List.getD_eq_getElem?_getD,List.getElem?_eq_getElem hkl];exact Option.some.inj hh
  ·rw[List.drop_eq_nil_of_le (by omega)]at hh;simp at hh
def runB(p:Nat×Int):List Int:=varB 9 p.1++num8 p.2
def bytesR(d:List (Nat×Int)):List Int:=d.flatMap runB
theorem QdJ(d:List (Nat×Int))(p:Nat×Int):bytesR (d++[p])=bytesR d++varB 9 p.1++num8 p.2:=by simp[bytesR,runB]
theorem QfC(d:List (Nat×Int))(p:Nat×Int):bytesR (p :: d)=varB 9 p.1++num8 p.2++bytesR d:=by simp[bytesR,runB]
def runsB(l:List Int):List Int:=bytesR (rle l)
theorem Qhx(x:Int)(t:List Int)(ht:t.head?≠some x)(k:Nat):runsB (List.replicate (k+1) x++t)=varB 9 ((k+1:Nat):Int)++num8 x++runsB t:=by
 unfold runsB;rw[Qkn x t ht k,QfC]
theorem Qo4(l:List Int):∀p∈rle l,1≤p.1∧p.1≤l.length:=by
 induction l with
 |nil=>intro p hp;cases hp
 |cons x t ih=>
  intro p hp;simp only[rle]at hp
  split at hp
  ·simp at hp;subst hp;simp
  ·rename_i k y r hr
   rw[hr]at ih
   split at hp
   ·rcases List.mem_cons.1 hp with rfl|hp
    ·have:=ih (k,y) (by simp);simp at this ⊢;omega
    ·have:=ih p (by simp[hp]);simp;omega
   ·rcases List.mem_cons.1 hp with rfl|hp
    ·simp
    ·have:=ih p hp;simp;omega
theorem Qky(l:List Int):(rle l).length≤l.length:=by
 induction l with
 |nil=>simp[rle]
 |cons x t ih=>
  simp only[rle]
  split
  ·simp
  ·rename_i k y r hr
   rw[hr]at ih
   split
   ·simp at ih ⊢;omega
   ·simp at ih ⊢;omega
theorem QgH(d:List (Nat×Int)):(bytesR d).length≤18*d.length:=by
 induction d with
 |nil=>simp[bytesR]
 |cons p d ih=>
  rw[QfC,List.length_append,List.length_append,Qu,List.length_cons];have:=Oct.QE 9 p.1;omega
theorem QmI(l:List Int):(runsB l).length≤18*l.length:=Nat.le_trans (QgH _) (Nat.mul_le_mul_left _ (Qky l))
theorem Qnd(l:List Int)(hl:l.length<18446744073709551616):Oct.IsB (runsB l):=by
 intro x hx;unfold runsB bytesR at hx;obtain⟨p,hp,hx⟩:=List.mem_flatMap.1 hx;have:=Qo4 l p hp;exact QaR (QaY p.1 (by omega)) (Qex p.2) x hx
def decR(chk:Bool):Nat→Option Int→Nat→List Int→Option (List Int×List Int)
 |_,_,0,b=>some ([],b)
 |0,_,_+1,_=>none
 |f+1,last,m+1,b=>
  if (readV 0 0 b).2.1≠0 then none
  else if (b.drop (readV 0 0 b).2.2).length<8 then none
  else if (readV 0 0 b).1<1∨((m+1:Nat):Int)<(readV 0 0 b).1∨(chk=true∧last=some (sg (ofB ((b.drop (readV 0 0 b).2.2).take 8)))) then none
  else match decR chk f (some (sg (ofB ((b.drop (readV 0 0 b).2.2).take 8)))) (m+1-(readV 0 0 b).1.toNat) ((b.drop (readV 0 0 b).2.2).drop 8) with
   |none=>none
   |some (l,r)=>some (List.replicate (readV 0 0 b).1.toNat (sg (ofB ((b.drop (readV 0 0 b).2.2).take 8)))++l,r)
theorem QcH(chk:Bool)(f:Nat)(last:Option Int)(b:List Int):decR chk f last 0 b=some ([],b):=by cases f <;> rfl
theorem QoA(chk:Bool)(r:List Int):∀(f:Nat) (l:List Int) (last:Option Int),l.length≤f→f<18446744073709551616→IsI l→(l=[]∨last≠l.head?)→decR chk f last l.length (runsB l++r)=some (l,r):=by
 intro f
 induction f with
 |zero=>intro l last h _ _ _;obtain rfl:=List.eq_nil_of_length_eq_zero (by omega:l.length=0);rfl
 |succ f ih=>
  intro l last h hf hI hlast;cases l with
  |nil=>exact QcH ..
  |cons x t=>
   obtain⟨k,t',e,ht⟩:=Qn2 x t;have hx:=hI x (by simp);have hlen:(x :: t).length=k+1+t'.length:=by rw[e];simp
   have hne:last≠some x:=by rcases hlast with h|h;(cases h);exact h
   have e2:runsB (x :: t)=varB 9 ((k+1:Nat):Int)++num8 x++runsB t':=by rw[e];exact Qhx x t' ht k
   rw[e2,hlen,show k+1+t'.length=(k+t'.length)+1 from by omega,List.append_assoc,List.append_assoc];have hr:=readV_var (k+1) (num8 x++(runsB t'++r)) (by omega);simp only[decR,hr];rw[if_neg (by simp),QbQ,if_neg (by rw[List.length_append,Qu];omega)];have d1:(num8 x++(runsB t'++r)).drop 8=runsB t'++r:=by rw[List.drop_left' (Qu x)]
   have d2:(num8 x++(runsB t'++r)).take 8=num8 x:=by rw[List.take_left' (Qu x)]
   rw[d1,d2,Qeg,sg_u _ hx.1 hx.2,if_neg (by
    rintro(h|h|h)
    ·omega
    ·omega
    ·exact hne h.2)]
   have hT:IsI t':=fun y hy=>hI y (by rw[e];exact List.mem_append_right _ hy)
   rw[Int.toNat_natCast,show k+t'.length+1-(k+1)=t'.length from by omega,ih t' (some x) (by omega) (by omega) hT (by
    rcases t' with _|⟨y,t'⟩
    ·exact .inl rfl
    ·exact .inr (fun h=>ht h.symm))]
   simp only[e]
theorem Qhr(chk:Bool):∀(f:Nat) (last:Option Int) (m:Nat) (b l r:List Int),Oct.IsB b→decR chk f last m b=some (l,r) →
  l.length=m∧IsI l∧(chk=true→b=runsB l++r∧(l=[]∨last≠l.head?)):=by
 intro f
 induction f with
 |zero=>
  intro last m b l r hb h;cases m with
  |zero=>rw[QcH]at h;simp at h;obtain⟨rfl,rfl⟩:=h;exact⟨rfl,(fun x hx=>by cases hx),fun _=>⟨rfl,.inl rfl⟩⟩
  |succ m=>simp[decR]at h
 |succ f ih=>
  intro last m b l r hb h;cases m with
  |zero=>rw[QcH]at h;simp at h;obtain⟨rfl,rfl⟩:=h;exact⟨rfl,(fun x hx=>by cases hx),fun _=>⟨rfl,.inl rfl⟩⟩
  |succ m=>
   obtain⟨q,er,n,hq⟩:∃q er n,readV 0 0 b=(q,er,n):=⟨_,_,_,rfl⟩;simp only[decR,hq]at h
   split at h
   ·cases h
   ·rename_i he
    have he:er=0:=by simpa using he
    subst he;obtain⟨q0,q1,hbq⟩:=QQ b hb q n hq
    split at h
    ·cases h
    ·rename_i hl
     have hb1:=Qn hb n;have ht:((b.drop n).take 8).length=8:=by rw[List.length_take];omega
     have hv:=QaG _ (QB hb1 8) ht;have hn8:=Qft _ (QB hb1 8) ht;obtain⟨v,hve⟩:∃v,v=sg (ofB ((b.drop n).take 8)):=⟨_,rfl⟩;have hvI:=sg_bd _ hv.1 hv.2;rw[←hve]at h hn8 hvI
     split at h
     ·cases h
     ·rename_i hc
      split at h
      ·cases h
      ·rename_i l' r' hd
       simp only[Option.some.injEq,Prod.mk.injEq]at h;obtain⟨rfl,rfl⟩:=h;obtain⟨h1,h2,h3⟩:=ih _ _ _ _ _ (Qn hb1 8) hd;obtain⟨k,hk⟩:∃k:Nat,q=((k+1:Nat):Int):=⟨q.toNat-1,by omega⟩;subst hk;rw[Int.toNat_natCast]at h1 ⊢;refine⟨by rw[List.length_append,List.length_replicate,h1];omega,Qpl (fun x hx=>by rw[List.eq_of_mem_replicate hx];exact hvI) h2,fun hchk=>?_⟩;obtain⟨h4,h5⟩:=h3 hchk;have hne:l'.head?≠some v:=by
        rcases h5 with rfl|h5
        ·simp
        ·exact fun e=>h5 e.symm
       refine⟨?_,.inr ?_⟩
       ·rw[Qhx v l' hne k,hn8,List.append_assoc,List.append_assoc,←h4,List.take_append_drop,←hbq]
       ·intro e;refine hc (.inr (.inr ⟨hchk,?_⟩));rw[e,List.replicate_succ,List.cons_append];rfl
theorem decR_step (chk : Bool) (f m : Nat) (acc rest : List Int) (X : Option (List Int × List Int)) (h : X = (decR chk (f + 1) acc.getLast? (m + 1) rest).map (fun p => (acc ++ p.1, p.2))) :
    ((readV 0 0 rest).2.1 ≠ 0 → X = none) ∧
    ((readV 0 0 rest).2.1 = 0 → (rest.drop (readV 0 0 rest).2.2).length < 8 → X = none) ∧
    ((readV 0 0 rest).2.1 = 0 → 8 ≤ (rest.drop (readV 0 0 rest).2.2).length →
      ((readV 0 0 rest).1 < 1 ∨ ((m + 1 : Nat) : Int) < (readV 0 0 rest).1 ∨ (chk = true ∧ acc.getLast? = some (sg (ofB ((rest.drop (readV 0 0 rest).2.2).take 8)))) → X = none) ∧
      (¬ ((readV 0 0 rest).1 < 1 ∨ ((m + 1 : Nat) : Int) < (readV 0 0 rest).1 ∨ (chk = true ∧ acc.getLast? = some (sg (ofB ((rest.drop (readV 0 0 rest).2.2).take 8))))) →
        X = (decR chk f (acc ++ List.replicate (readV 0 0 rest).1.toNat (sg (ofB ((rest.drop (readV 0 0 rest).2.2).take 8)))).getLast? (m + 1 - (readV 0 0 rest).1.toNat) ((rest.drop (readV 0 0 rest).2.2).drop 8)).map
          (fun p => ((acc ++ List.replicate (readV 0 0 rest).1.toNat (sg (ofB ((rest.drop (readV 0 0 rest).2.2).take 8)))) ++ p.1, p.2)))) := by
  rw [decR] at h
  generalize hq : readV 0 0 rest = q at h ⊢
  refine ⟨fun h1 => by rw [h, if_pos h1]; rfl, fun h1 h2 => by rw [h, if_neg (by simpa using h1), if_pos h2]; rfl, fun h1 h2 => ⟨fun h3 => by rw [h, if_neg (by simpa using h1), if_neg (by omega), if_pos h3]; rfl, fun h3 => ?_⟩⟩
  rw [h, if_neg (by simpa using h1), if_neg (by omega), if_neg h3]
  generalize sg (ofB ((rest.drop q.2.2).take 8)) = v at h3 ⊢
  have e : (acc ++ List.replicate q.1.toNat v).getLast? = some v := by
    obtain ⟨k, hk⟩ : ∃ k, q.1.toNat = k + 1 := ⟨q.1.toNat - 1, by omega⟩
    rw [hk, List.replicate_succ', ← List.append_assoc, List.getLast?_append]; simp
  rw [e]
  cases decR chk f (some v) (m + 1 - q.1.toNat) ((rest.drop q.2.2).drop 8) with
  | none => rfl
  | some p => simp
end In
namespace In
open Oct (putB ofB varB readV)
open Pk (wid putR getR IsU Fit sizeN canB)
open Is (IsI)
def minL:List Int→Int
 | []=>0
 |x :: t=>t.foldl min x
theorem Qmh(l:List Int)(x:Int)(h:l≠[]):minL (l++[x])=min (minL l) x:=by
 cases l with
 |nil=>exact absurd rfl h
 |cons y t=>simp[minL,List.foldl_append]
theorem Qe7(t:List Int):∀x:Int,(t.foldl min x=x∨t.foldl min x∈t)∧t.foldl min x≤x∧∀y∈t,t.foldl min x≤y:=by
 induction t with
 |nil=>intro x;simp
 |cons z t ih=>
  intro x;obtain⟨h1,h2,h3⟩:=ih (min x z);rw[List.foldl_cons];refine⟨?_,by omega,fun y hy=>?_⟩
  ·rcases h1 with h1|h1
   ·rw[h1];by_cases hxz:x≤z
    ·exact .inl (by omega)
    ·exact .inr (by rw[show min x z=z from by omega];simp)
   ·exact .inr (by simp[h1])
  ·rcases List.mem_cons.1 hy with rfl|hy
   ·omega
   ·exact h3 y hy
theorem Qn0(l:List Int)(h:l≠[]):minL l∈l:=by
 cases l with
 |nil=>exact absurd rfl h
 |cons x t=>
  rcases(Qe7 t x).1 with h|h
  ·show t.foldl min x∈_;rw[h];simp
  ·show t.foldl min x∈_;simp[h]
theorem Qpm(l:List Int):∀x∈l,minL l≤x:=by
 cases l with
 |nil=>intro x hx;cases hx
 |cons y t=>
  intro x hx
  show t.foldl min y≤x
  rcases List.mem_cons.1 hx with rfl|hx
  ·exact(Qe7 t x).2.1
  ·exact(Qe7 t y).2.2 x hx
theorem Qjn(l:List Int)(h:IsI l):-9223372036854775808≤minL l∧minL l≤9223372036854775807:=by
 cases l with
 |nil=>exact⟨by decide,by decide⟩
 |cons x t=>exact h _ (Qn0 _ (by simp))
def offs(l:List Int):List Int:=l.map (fun v=>u (v-minL l))
theorem Qbi(l:List Int):(offs l).length=l.length:=by simp[offs]
theorem QaO(l:List Int):IsU (offs l):=by
 intro x hx;obtain⟨v,_,rfl⟩:=List.mem_map.1 hx;exact u_bd _
theorem Qps(l:List Int)(h:IsI l)(v:Int)(hv:v∈l):u (v-minL l)=v-minL l:=by
 have h1:=Qpm l v hv;have h2:=Qjn l h;have h3:=h v hv;unfold u;omega
def packedB(l:List Int):List Int:=num8 (minL l)++[((wid (offs l):Nat):Int)]++(putR (offs l) (wid (offs l))).2
theorem Qb3(l:List Int)(hl:l.length≤65536):(putR (offs l) (wid (offs l))).1=0:=by
 have:=Pk.Qbh (QaO l);exact(Pk.Qbw _ _).2 ⟨(Pk.Qy _ _).2 (by rw[Qbi];omega),by omega⟩
theorem QeF(l:List Int)(hl:l.length≤65536):(packedB l).length=9+sizeN l.length (wid (offs l)):=by
 have h:=Pk.QfI (offs l) (wid (offs l)) (Qb3 l hl);have hw:=Pk.Qbh (QaO l);unfold Pk.sizeF at h;rw[Qbi,if_pos ((Pk.Qy _ _).2 (by omega)),Int.toNat_natCast,Int.toNat_natCast]at h;unfold packedB;rw[List.length_append,List.length_append,Qu];simp only[List.length_singleton];omega
theorem Qj3(l:List Int):Oct.IsB (packedB l):=by
 have hw:=Pk.Qbh (QaO l);refine QaR (QaR (Qex _) ?_) (Pk.Fit.isB (Pk.Qfs _ _));intro x hx;simp only[List.mem_singleton]at hx;omega
def above(b:List Int)(v:Int):Int:=sg ((ofB (b.take 8)+v) % 18446744073709551616)
def decK(chk:Bool)(n:Nat)(b:List Int):Option (List Int):=
 if b.length<9 then none
 else if (getR (b.drop 9) n (b.getD 8 0)).1≠0 then none
 else if chk=true∧¬(minL ((getR (b.drop 9) n (b.getD 8 0)).2.map (above b))=sg (ofB (b.take 8))∧((wid (getR (b.drop 9) n (b.getD 8 0)).2:Nat):Int)=b.getD 8 0) then none
 else some ((getR (b.drop 9) n (b.getD 8 0)).2.map (above b))
theorem QnO(chk:Bool)(l:List Int)(h:IsI l)(hl:l.length≤65536):decK chk l.length (packedB l)=some l:=by
 have hok:=Qb3 l hl;have hg:=Pk.get_put (offs l) (wid (offs l)) (QaO l) hok;rw[Qbi]at hg;have e1:(packedB l).take 8=num8 (minL l):=by
  unfold packedB;rw[List.append_assoc,List.take_left' (Qu _)]
 have e2:(packedB l).drop 9=(putR (offs l) (wid (offs l))).2:=by
  unfold packedB;rw[List.drop_left' (by rw[List.length_append,Qu];rfl)]
 have e3:(packedB l).getD 8 0=((wid (offs l):Nat):Int):=by
  unfold packedB;rw[List.getD_eq_getElem?_getD,List.append_assoc,List.getElem?_append_right (by rw[Qu];omega),Qu];rfl
 have e4:(offs l).map (above (packedB l))=l:=by
  unfold offs;rw[List.map_map]
  conv=>rhs;rw[←List.map_id l]
  apply List.map_congr_left
  intro v hv;have hvI:=h v hv
  show above (packedB l) (u (v-minL l))=v
  unfold above;rw[e1,Qeg,Qps l h v hv];have:(u (minL l)+(v-minL l)) % 18446744073709551616=u v:=by unfold u;omega
  rw[this,sg_u _ hvI.1 hvI.2]
 have hm:=Qjn l h;unfold decK;rw[e1,e2,e3,hg,if_neg (by rw[QeF l hl];omega),if_neg (by simp)];simp only[e4];rw[if_neg (by
  rintro⟨_,hn⟩;exact hn ⟨by rw[Qeg,sg_u _ hm.1 hm.2],trivial⟩)]
theorem Ql6(chk:Bool)(n:Nat)(b l:List Int)(hb:Oct.IsB b)(h:decK chk n b=some l):l.length=n∧IsI l∧(chk=true→b=packedB l):=by
 unfold decK at h
 split at h
 ·cases h
 ·rename_i h9
  split at h
  ·cases h
  ·rename_i he
   have he:(getR (b.drop 9) n (b.getD 8 0)).1=0:=by simpa using he
   obtain⟨p1,p2,p3,p4⟩:=Pk.Qau (b.drop 9) n (b.getD 8 0) (Pk.Q0 (Qn hb 9)) he
   split at h
   ·cases h
   ·rename_i hc
    simp only[Option.some.injEq]at h;obtain⟨A,hA⟩:∃A,A=(getR (b.drop 9) n (b.getD 8 0)).2:=⟨_,rfl⟩;rw[←hA]at h hc p1 p2 p3 p4;obtain⟨z,hz⟩:∃z,z=ofB (b.take 8):=⟨_,rfl⟩;have ht:(b.take 8).length=8:=by rw[List.length_take];omega
    have hzb:=QaG _ (QB hb 8) ht;have hz8:=Qft _ (QB hb 8) ht;rw[←hz]at hzb hz8 hc;have hI:IsI l:=by
     rw[←h];intro x hx;obtain⟨v,_,rfl⟩:=List.mem_map.1 hx;exact sg_bd _ (by omega) (by omega)
    refine⟨by rw[←h,List.length_map];omega,hI,fun hchk=>?_⟩;obtain⟨c1,c2⟩:=Classical.not_not.1 (fun hn=>hc ⟨hchk,hn⟩);have c1':minL l=sg z:=by rw[←h];exact c1
    have e:offs l=A:=by
     unfold offs;rw[c1',←h,List.map_map]
     conv=>rhs;rw[←List.map_id A]
     apply List.map_congr_left
     intro v hv;have hv2:=p4 v hv
     show u (above b v-sg z)=v
     unfold above;rw[←hz];unfold u sg
     split <;> split <;> omega
    have c2':b.getD 8 0=((wid A:Nat):Int):=c2.symm;unfold packedB;rw[c1',e,hz8,←c2',p1];have hd:b.drop 8=b.getD 8 0 :: b.drop 9:=by
     rw[List.drop_eq_getElem_cons (by omega)];simp[List.getD,List.getElem?_eq_getElem (show 8<b.length by omega)]
    show b=b.take 8++[b.getD 8 0]++b.drop 9
    rw[List.append_assoc]
    show b=b.take 8++(b.getD 8 0 :: b.drop 9)
    rw[←hd,List.take_append_drop]
def headB(k:Nat)(n:Nat):List Int:=(k:Int) :: varB 9 (n:Int)
def bodyB(k:Nat)(l:List Int):List Int:=if k=1 then plainB l else if k=2 then runsB l else packedB l
def encB(k:Nat)(l:List Int):List Int:=headB k l.length++bodyB k l
theorem Qcj(k:Nat)(l:List Int)(hk:k≤3)(hl:l.length≤65536):Oct.IsB (encB k l):=by
 refine QaR ?_ ?_
 ·intro x hx;rcases List.mem_cons.1 hx with rfl|hx
  ·omega
  ·exact QaY l.length (by omega) x hx
 ·unfold bodyB
  split
  ·exact Qlu l
  ·split
   ·exact Qnd l (by omega)
   ·exact Qj3 l
def decF(chk:Bool)(k n:Nat)(b:List Int):Option (List Int×List Int):=
 if k=1 then decP n b else if k=2 then decR chk n none n b else(decK chk n b).map (fun l=>(l,[]))
theorem Qi2(chk:Bool)(k:Nat)(l:List Int)(h:IsI l)(hl:l.length≤65536):decF chk k l.length (bodyB k l)=some (l,[]):=by
 unfold decF bodyB;by_cases h1:k=1
 ·rw[if_pos h1,if_pos h1];have:=QnP l [] h
  rwa [List.append_nil]at this
 ·rw[if_neg h1,if_neg h1];by_cases h2:k=2
  ·rw[if_pos h2,if_pos h2];have:=QoA chk [] l.length l none (Nat.le_refl _) (by omega) h (by
    cases l with
    |nil=>exact .inl rfl
    |cons x t=>exact .inr (by simp))
   rwa [List.append_nil]at this
  ·rw[if_neg h2,if_neg h2,QnO chk l h hl];rfl
theorem Qhu(chk:Bool)(k n:Nat)(b l r:List Int)(hb:Oct.IsB b)(h:decF chk k n b=some (l,r)):l.length=n∧IsI l∧(chk=true→b=bodyB k l++r):=by
 unfold decF at h;unfold bodyB;by_cases h1:k=1
 ·rw[if_pos h1]at h;rw[if_pos h1];obtain⟨a,b,c⟩:=QlP _ _ _ _ hb h;exact⟨b,c,fun _=>a⟩
 ·rw[if_neg h1]at h;rw[if_neg h1];by_cases h2:k=2
  ·rw[if_pos h2]at h;rw[if_pos h2];obtain⟨a,b,c⟩:=Qhr _ _ _ _ _ _ _ hb h;exact⟨a,b,fun hc=>(c hc).1⟩
  ·rw[if_neg h2]at h;rw[if_neg h2];cases hd:decK chk n b with
   |none=>rw[hd]at h;cases h
   |some l'=>
    rw[hd]at h;simp only[Option.map_some,Option.some.injEq,Prod.mk.injEq]at h;obtain⟨rfl,rfl⟩:=h;obtain⟨a,b,c⟩:=Ql6 _ _ _ _ hb hd;exact⟨a,b,fun hc=>by rw[List.append_nil];exact c hc⟩
def fin(o:Option (List Int×List Int)):Int×List Int:=match o with
 |some (l,[])=>(0,l)
 |_=>(4,[])
def getI(b:List Int):Int×List Int:=match b with
 | []=>(4,[])
 |k :: t=>
  if k<1∨3<k then(4,[])
  else if (readV 0 0 t).2.1≠0∨4096<(readV 0 0 t).1 then(4,[])
  else fin (decF true k.toNat (readV 0 0 t).1.toNat (t.drop (readV 0 0 t).2.2))
theorem Qpb(k:Nat)(l:List Int)(k1:1≤k)(k3:k≤3)(h:IsI l)(hl:l.length≤4096):getI (encB k l)=(0,l):=by
 have hr:=readV_var l.length (bodyB k l) (by omega);unfold encB headB;simp only[List.cons_append,getI,hr];rw[if_neg (by omega),if_neg (by
  rintro(h|h)
  ·exact h rfl
  ·omega),QbQ,Int.toNat_natCast,Int.toNat_natCast,Qi2 true k l h (by omega)]
 rfl
theorem QiL(b l:List Int)(hb:Oct.IsB b)(h:getI b=(0,l)):∃k,1≤k∧k≤3∧b=encB k l∧l.length≤4096∧IsI l:=by
 cases b with
 |nil=>simp[getI]at h
 |cons k t=>
  simp only[getI]at h
  split at h
  ·simp at h
  ·rename_i hk
   obtain⟨q,er,n,hq⟩:∃q er n,readV 0 0 t=(q,er,n):=⟨_,_,_,rfl⟩;rw[hq]at h;simp only at h
   split at h
   ·simp at h
   ·rename_i hc
    have hbt:Oct.IsB t:=fun x hx=>hb x (by simp[hx])
    have er0:er=0:=Classical.not_not.1 (fun e=>hc (.inl e));subst er0;obtain⟨q0,q1,hbq⟩:=QQ t hbt q n hq;obtain⟨j,rfl⟩:=Int.eq_ofNat_of_zero_le q0;obtain⟨m,rfl⟩:=Int.eq_ofNat_of_zero_le (show 0≤k by omega);simp only[Int.toNat_natCast]at h;cases hd:decF true m j (t.drop n) with
    |none=>rw[hd]at h;simp[fin]at h
    |some p=>
     obtain⟨l',r⟩:=p;rw[hd]at h;cases r with
     |cons y r=>simp[fin]at h
     |nil=>
      simp only[fin,Prod.mk.injEq,true_and]at h;subst h;obtain⟨a,c,e⟩:=Qhu _ _ _ _ _ _ (Qn hbt n) hd;have e:=e rfl;rw[List.append_nil]at e;refine⟨m,by omega,by omega,?_,by omega,c⟩;unfold encB headB;rw[a,←e,List.cons_append,←hbq]
theorem QhV(b:List Int):(∃l,getI b=(0,l))∨getI b=(4,[]):=by
 cases b with
 |nil=>exact .inr rfl
 |cons k t=>
  simp only[getI]
  split
  ·exact .inr rfl
  ·split
   ·exact .inr rfl
   ·unfold fin
    split
    ·exact .inl ⟨_,rfl⟩
    ·exact .inr rfl
def rgetI(b:List Int):Int×List Int:=match b with
 | []=>(4,[])
 |k :: t=>
  if (readV 0 0 t).2.1≠0∨4096<(readV 0 0 t).1 then(4,[])
  else if k<1∨3<k then(4,[])
  else match decF false k.toNat (readV 0 0 t).1.toNat (t.drop (readV 0 0 t).2.2) with
   |none=>(4,[])
   |some (l,_)=>if encB k.toNat l=k :: t then(0,l) else(4,[])
theorem QdW(b:List Int)(hb:Oct.IsB b):rgetI b=getI b:=by
 rcases QhV b with ⟨l,h⟩|h
 ·rw[h];obtain⟨k,k1,k3,rfl,hl,hI⟩:=QiL b l hb h;have hr:=readV_var l.length (bodyB k l) (by omega);have e:encB k l=(k:Int) :: (varB 9 l.length++bodyB k l):=rfl;rw[e];simp only[rgetI,hr];rw[if_neg (by
   rintro(h|h)
   ·exact h rfl
   ·omega),if_neg (by omega),QbQ,Int.toNat_natCast,Int.toNat_natCast,Qi2 false k l hI (by omega)]
  simp only;rw[←e,if_pos rfl]
 ·rw[h];cases b with
  |nil=>rfl
  |cons k t=>
   simp only[rgetI]
   split
   ·rfl
   ·rename_i hc
    split
    ·rfl
    ·rename_i hk
     split
     ·rfl
     ·rename_i l r hd
      split
      ·rename_i he
       exfalso
       have hbt:Oct.IsB t:=fun x hx=>hb x (by simp[hx])
       obtain⟨a,c,_⟩:=Qhu _ _ _ _ _ _ (Qn hbt _) hd;have hl:l.length≤4096:=by
        rw[a];have:(readV 0 0 t).1≤4096:=by
         apply Int.not_lt.1
         exact fun e=>hc (.inr e)
        omega
       have:=Qpb k.toNat l (by omega) (by omega) c hl;rw[he,h]at this;simp at this
      ·rfl
theorem Qfj(b:List Int)(hb:Oct.IsB b):(getI b).2.length≤4096∧IsI (getI b).2:=by
 rcases QhV b with ⟨l,h⟩|h
 ·obtain⟨_,_,_,_,a,c⟩:=QiL b l hb h;rw[h];exact⟨a,c⟩
 ·rw[h];exact⟨by simp,fun x hx=>by cases hx⟩
def bestB(l:List Int):List Int:=
 let m:=if (encB 2 l).length<(encB 1 l).length then encB 2 l else encB 1 l
 if (encB 3 l).length<m.length then encB 3 l else m
def tooMany(l:List Int)(e:List Int):Int×List Int:=if 4096<l.length then(3,[]) else(0,e)
theorem QgE(l:List Int):(bestB l=encB 1 l∨bestB l=encB 2 l∨bestB l=encB 3 l):=by
 unfold bestB;simp only
 split <;> split <;> simp
theorem QnK(l:List Int):(bestB l).length=min (min (encB 1 l).length (encB 2 l).length) (encB 3 l).length:=by
 unfold bestB;simp only
 split <;> split <;> omega
end In
namespace Tx
open Go.RowKit
open Ss (IsS)
open Oct (varB readV)
open Pk (wid putR getR IsU Fit sizeN)
def okB(l:List (List Int)):Bool:=decide (l.length≤4096) && l.all fun s=>decide (s.length≤65536)
def OkT(l:List (List Int)):Prop:=l.length≤4096∧∀s∈l,s.length≤65536
theorem QaJ(l:List (List Int)):okB l=true↔OkT l:=by simp[okB,OkT]
def strB(s:List Int):List Int:=varB 9 (s.length:Int)++s
def strsB(l:List (List Int)):List Int:=l.flatMap strB
theorem QcY(s:List Int)(l:List (List Int)):strsB (s :: l)=strB s++strsB l:=by simp[strsB]
theorem Qlw(l:List (List Int))(s:List Int):strsB (l++[s])=strsB l++strB s:=by simp[strsB]
theorem Qej(s:List Int):(strB s).length≤s.length+10:=by
 unfold strB;rw[List.length_append];have:=Oct.QE 9 (s.length:Int);omega
theorem QhN(l:List (List Int))(h:∀s∈l,s.length≤65536):(strsB l).length≤l.length*65546:=by
 induction l with
 |nil=>simp[strsB]
 |cons s l ih=>
  rw[QcY,List.length_append,List.length_cons];have:=ih fun z hz=>h z (by simp[hz])
  have:=Qej s;have:=h s (by simp);omega
theorem Qi3{s:List Int}(h:Bs.IsB s)(hl:s.length≤1000000000):Oct.IsB (strB s):=In.QaR (In.QaY s.length (by omega)) h
theorem QhD{l:List (List Int)}(h:AllB l)(hl:∀s∈l,s.length≤1000000000):Oct.IsB (strsB l):=by
 induction l with
 |nil=>intro x hx;cases hx
 |cons s l ih=>rw[QcY];exact In.QaR (Qi3 (h s (by simp)) (hl s (by simp))) (ih (fun z hz=>h z (by simp[hz])) fun z hz=>hl z (by simp[hz]))
def plainT(l:List (List Int)):List Int:=1 :: (varB 9 (l.length:Int)++strsB l)
def ixT(l:List (List Int)):List Int:=idxsF (wordsF l) l
def tailT(ix:List Int):List Int:=(wid ix:Int) :: (putR ix (wid ix)).2
def dictT(l:List (List Int)):List Int:=2 :: (varB 9 (l.length:Int)++((varB 9 ((wordsF l).length:Int)++strsB (wordsF l))++tailT (ixT l)))
def formR(b:List Int)(l:List (List Int)):Int×List Int:=if okB l=true then(0,b) else(3,[])
def bestT(l:List (List Int)):List Int:=if (dictT l).length<(plainT l).length then dictT l else plainT l
theorem QeO{l:List (List Int)}(h:l.length≤65536):IsU (ixT l):=by
 intro x hx;obtain⟨s,hs,rfl⟩:=List.mem_map.1 hx;have h1:=QdM ((QZ s l).2 hs);have:=QaT l;omega
theorem Qjz{l:List (List Int)}(h:l.length≤65536):(putR (ixT l) (wid (ixT l))).1=0:=by
 refine(Pk.Qbw _ _).2 ⟨(Pk.Qy _ _).2 ?_,Int.le_refl _⟩;have:=Pk.Qbh (QeO h);rw[show(ixT l).length=l.length from Qcm _ _];omega
theorem QnI(ix:List Int)(hu:IsU ix):Oct.IsB (tailT ix):=by
 intro x hx;rcases List.mem_cons.1 hx with e|hx
 ·subst e;have:=Pk.Qbh hu;omega
 ·exact(Pk.Qfs ix _).isB x hx
def readS(b:List Int):Option (List Int×List Int):=
 if (readV 0 0 b).2.1≠0∨65536<(readV 0 0 b).1∨((b.drop (readV 0 0 b).2.2).length:Int)<(readV 0 0 b).1 then none
 else some ((b.drop (readV 0 0 b).2.2).take (readV 0 0 b).1.toNat,(b.drop (readV 0 0 b).2.2).drop (readV 0 0 b).1.toNat)
def readSs:Nat→List Int→Option (List (List Int)×List Int)
 |0,b=>some ([],b)
 |n+1,b=>match readS b with
  |none=>none
  |some (s,r)=>match readSs n r with
   |none=>none
   |some (l,r2)=>some (s :: l,r2)
def readC(b:List Int):Option (Nat×List Int):=
 if (readV 0 0 b).2.1≠0∨4096<(readV 0 0 b).1 then none else some ((readV 0 0 b).1.toNat,b.drop (readV 0 0 b).2.2)
theorem QkM(s r:List Int)(hs:s.length≤65536):readS (strB s++r)=some (s,r):=by
 unfold readS strB;rw[List.append_assoc,In.readV_var s.length (s++r) (by omega)];simp only[Int.toNat_natCast,List.take_left,List.drop_left,List.length_append];rw[if_neg (by omega)]
theorem Qgk{b:List Int}(hb:Oct.IsB b){s r:List Int}(h:readS b=some (s,r)):s.length≤65536∧b=strB s++r:=by
 unfold readS at h;obtain⟨x,e,n,hv⟩:∃x e n,readV 0 0 b=(x,e,n):=⟨_,_,_,rfl⟩;rw[hv]at h;simp only at h
 split at h
 ·cases h
 ·rename_i hc
  have he:e=0:=Classical.byContradiction fun k=>hc (.inl k)
  subst he;obtain⟨h0,-,hbe⟩:=In.QQ b hb x n hv;have hx:x≤65536:=by omega
  have hl:x≤((b.drop n).length:Int):=by omega
  obtain⟨m,rfl⟩:=Int.eq_ofNat_of_zero_le h0;rw[Int.toNat_natCast]at h;simp only[Option.some.injEq,Prod.mk.injEq]at h;obtain⟨rfl,rfl⟩:=h;have hm:((b.drop n).take m).length=m:=by rw[List.length_take];omega
  refine⟨by rw[hm];omega,?_⟩;unfold strB;rw[hm,List.append_assoc,List.take_append_drop];exact hbe
theorem QbN:∀(l:List (List Int)) (r:List Int),(∀s∈l,s.length≤65536)→readSs l.length (strsB l++r)=some (l,r)
 | [],r,_=>rfl
 |s :: l,r,h=>by
  rw[QcY,List.append_assoc,List.length_cons,readSs,QkM s _ (h s (by simp))];simp only[QbN l r fun z hz=>h z (by simp[hz])]
theorem Qz{a b:List Int}(h:Oct.IsB (a++b)):Oct.IsB b:=fun x hx=>h x (List.mem_append_right a hx)
theorem QnX{a b:List Int}(h:Oct.IsB (a++b)):Oct.IsB a:=fun x hx=>h x (List.mem_append_left b hx)
theorem QaD:∀(n:Nat) (b:List Int),Oct.IsB b→∀(l:List (List Int)) (r:List Int),readSs n b=some (l,r)→l.length=n∧(∀s∈l,s.length≤65536)∧AllB l∧b=strsB l++r
 |0,b,_,l,r,h=>by
  simp only[readSs,Option.some.injEq,Prod.mk.injEq]at h;obtain⟨rfl,rfl⟩:=h;refine⟨rfl,fun s hs=>?_,fun s hs=>?_,rfl⟩ <;> cases hs
 |n+1,b,hb,l,r,h=>by
  rw[readSs]at h;cases hs:readS b with
  |none=>rw[hs]at h;cases h
  |some p=>
   obtain⟨s,r1⟩:=p;rw[hs]at h;obtain⟨h1,h2⟩:=Qgk hb hs;have hb1:Oct.IsB (strB s++r1):=h2▸hb;simp only at h;cases hr:readSs n r1 with
   |none=>rw[hr]at h;cases h
   |some q=>
    obtain⟨l1,r2⟩:=q;rw[hr]at h;simp only[Option.some.injEq,Prod.mk.injEq]at h;obtain⟨rfl,rfl⟩:=h;obtain⟨e1,e2,e3,e4⟩:=QaD n r1 (Qz hb1) l1 r2 hr;refine⟨by rw[List.length_cons,e1],fun z hz=>?_,fun z hz=>?_,?_⟩
    ·rcases List.mem_cons.1 hz with e|hz
     ·subst e;exact h1
     ·exact e2 z hz
    ·rcases List.mem_cons.1 hz with e|hz
     ·subst e;exact Qz (QnX hb1)
     ·exact e3 z hz
    ·rw[QcY,List.append_assoc,←e4];exact h2
theorem QcD(n:Nat)(r:List Int)(h:n≤4096):readC (varB 9 (n:Int)++r)=some (n,r):=by
 unfold readC;rw[In.readV_var n r (by omega)];simp only[In.QbQ,Int.toNat_natCast];rw[if_neg (by omega)]
theorem Q5{b:List Int}(hb:Oct.IsB b){n:Nat}{r:List Int}(h:readC b=some (n,r)):n≤4096∧b=varB 9 (n:Int)++r:=by
 unfold readC at h;obtain⟨x,e,m,hv⟩:∃x e m,readV 0 0 b=(x,e,m):=⟨_,_,_,rfl⟩;rw[hv]at h;simp only at h
 split at h
 ·cases h
 ·rename_i hc
  have he:e=0:=Classical.byContradiction fun k=>hc (.inl k)
  subst he;obtain⟨h0,-,hbe⟩:=In.QQ b hb x m hv;obtain⟨k,rfl⟩:=Int.eq_ofNat_of_zero_le h0;rw[Int.toNat_natCast]at h;simp only[Option.some.injEq,Prod.mk.injEq]at h;obtain⟨rfl,rfl⟩:=h;exact⟨by omega,hbe⟩
def getPl(b:List Int):Option (List (List Int)×List Int):=match readC b with
 |none=>none
 |some (n,r)=>readSs n r
def getIx(n:Nat):List Int→Option (List Int)
 | []=>none
 |w :: r=>if (getR r n w).1≠0∨(wid (getR r n w).2:Int)≠w then none else some (getR r n w).2
def dictL(ws:List (List Int))(ix:List Int):Option (List (List Int)):=
 if ix.all (fun i=>decide (i<(ws.length:Int)))=true then some (ix.map fun i=>ws.getD i.toNat []) else none
def getDt(b:List Int):Option (List (List Int)):=match readC b with
 |none=>none
 |some (n,r)=>match getPl r with
  |none=>none
  |some (ws,r2)=>match getIx n r2 with
   |none=>none
   |some ix=>match dictL ws ix with
    |none=>none
    |some l=>if wordsF l=ws then some l else none
def endT:Option (List (List Int)×List Int)→Option (List (List Int))
 |some (l,[])=>some l
 |_=>none
def getT:List Int→Option (List (List Int))
 | []=>none
 |k :: t=>if k=1 then endT (getPl t) else if k=2 then getDt t else none
theorem Qdw(k:Int)(t:List Int):getT (k :: t)=if k=1 then endT (getPl t) else if k=2 then getDt t else none:=rfl
def resT:Option (List (List Int))→Int×List (List Int)
 |some l=>(0,l)
 |none=>(4,[])
def rwordsT(n:Nat)(b:List Int):Option (List (List Int)):=
 if (readV 0 0 b).2.1≠0∨(n:Int)<(readV 0 0 b).1 then none else match readSs (readV 0 0 b).1.toNat (b.drop (readV 0 0 b).2.2) with
  |none=>none
  |some (_,[])=>none
  |some (ws,w :: r)=>if (getR r n w).1≠0 then none else dictL ws (getR r n w).2
def fstT:Option (List (List Int)×List Int)→Option (List (List Int))
 |some (l,_)=>some l
 |none=>none
def sameT(b:List Int)(enc:List (List Int)→List Int):Option (List (List Int))→Option (List (List Int))
 |some l=>if enc l=b then some l else none
 |none=>none
def rgetT(b:List Int):Option (List (List Int)):=match b with
 | []=>none
 |k :: t=>match readC t with
  |none=>none
  |some (n,r)=>if k=1 then sameT b plainT (fstT (readSs n r)) else if k=2 then sameT b dictT (rwordsT n r) else none
theorem QcS(k:Int)(t:List Int):rgetT (k :: t)=match readC t with
  |none=>none
  |some (n,r)=>if k=1 then sameT (k :: t) plainT (fstT (readSs n r)) else if k=2 then sameT (k :: t) dictT (rwordsT n r) else none:=rfl
theorem Qiy{l:List (List Int)}:dictL (wordsF l) (ixT l)=some l:=by
 unfold dictL;rw[if_pos]
 ·congr 1
  unfold ixT idxsF;rw[List.map_map];refine(List.map_congr_left fun s hs=>?_).trans (List.map_id l);simp only[Function.comp,Int.toNat_natCast,id];exact QgW ((QZ s l).2 hs)
 ·refine List.all_eq_true.2 fun i hi=>?_
  obtain⟨s,hs,rfl⟩:=List.mem_map.1 hi;have:=QdM ((QZ s l).2 hs)
  simpa using this
theorem Qlc{ws:List (List Int)}(hn:ws.Nodup){ix:List Int}(hu:∀i∈ix,0≤i){l:List (List Int)}(h:dictL ws ix=some l):l.length=ix.length∧idxsF ws l=ix∧∀s∈l,s∈ws:=by
 unfold dictL at h
 split at h
 ·rename_i ha
  simp only[Option.some.injEq]at h;subst h;have hlt:∀i∈ix,i.toNat<ws.length:=fun i hi=>by have h1:=of_decide_eq_true (List.all_eq_true.1 ha i hi);have h2:=hu i hi;omega
  refine⟨by simp,?_,fun s hs=>?_⟩
  ·unfold idxsF;rw[List.map_map];refine(List.map_congr_left fun i hi=>?_).trans (List.map_id ix);simp only[Function.comp,id];rw[Qgo hn i.toNat (hlt i hi)];have:=hu i hi;omega
  ·obtain⟨i,hi,rfl⟩:=List.mem_map.1 hs;rw[List.getD_eq_getElem?_getD,List.getElem?_eq_getElem (hlt i hi)];exact List.getElem_mem _
 ·cases h
theorem Qhq{l:List (List Int)}(h:l.length≤65536):getR (putR (ixT l) (wid (ixT l))).2 (l.length:Nat) (wid (ixT l):Int)=(0,ixT l):=by
 have:=Pk.get_put (ixT l) (wid (ixT l)) (QeO h) (Qjz h)
 rwa [show(ixT l).length=l.length from Qcm _ _]at this
theorem QlZ{l:List (List Int)}(h:OkT l):getT (plainT l)=some l:=by
 unfold plainT;rw[Qdw,if_pos rfl];unfold getPl;have:=QbN l [] h.2;rw[List.append_nil]at this;rw[QcD l.length _ h.1];simp only[this,endT]
theorem Qot{l:List (List Int)}(h:OkT l):getT (dictT l)=some l:=by
 have hw:OkT (wordsF l):=⟨Nat.le_trans (QaT l) h.1,fun s hs=>h.2 s ((QZ s l).1 hs)⟩;unfold dictT;rw[Qdw,if_neg (by decide),if_pos rfl];unfold getDt;rw[QcD l.length _ h.1];simp only;unfold getPl;rw[List.append_assoc,QcD (wordsF l).length _ hw.1];simp only[QbN (wordsF l) _ hw.2];have hx:getIx l.length (tailT (ixT l))=some (ixT l):=by
  unfold tailT;rw[getIx,Qhq (by have:=h.1;omega)];simp
 simp only[hx,Qiy,if_true]
theorem QiB{b:List Int}(hb:Oct.IsB b){l:List (List Int)}(h:getT b=some l):OkT l∧AllB l∧(b=plainT l∨b=dictT l):=by
 match b,hb,h with
 |k :: t,hb,h=>
  have ht:Oct.IsB t:=fun x hx=>hb x (by simp[hx])
  rw[Qdw]at h
  split at h
  ·rename_i hk
   unfold getPl at h;cases hc:readC t with
   |none=>rw[hc]at h;cases h
   |some p=>
    obtain⟨n,r⟩:=p;rw[hc]at h;simp only at h;obtain⟨hn,ht2⟩:=Q5 ht hc;cases hs:readSs n r with
    |none=>rw[hs]at h;cases h
    |some q=>
     obtain⟨l1,r1⟩:=q;rw[hs]at h;cases r1 with
     |cons y r1=>cases h
     |nil=>
      simp only[endT,Option.some.injEq]at h;subst h;obtain⟨e1,e2,e3,e4⟩:=QaD n r (Qz (ht2▸ht)) l1 [] hs;refine⟨⟨by omega,e2⟩,e3,.inl ?_⟩;rw[List.append_nil]at e4;rw[hk,ht2,plainT,e1,e4]
  ·rename_i hk1
   split at h
   ·rename_i hk
    unfold getDt at h;cases hc:readC t with
    |none=>rw[hc]at h;cases h
    |some p=>
     obtain⟨n,r⟩:=p;rw[hc]at h;simp only at h;obtain⟨hn,ht2⟩:=Q5 ht hc;have hr:Oct.IsB r:=Qz (ht2▸ht);unfold getPl at h;cases hc2:readC r with
     |none=>rw[hc2]at h;cases h
     |some p2=>
      obtain⟨m,r2⟩:=p2;rw[hc2]at h;simp only at h;obtain⟨hm,hr2⟩:=Q5 hr hc2;cases hs:readSs m r2 with
      |none=>rw[hs]at h;cases h
      |some q=>
       obtain⟨ws,r3⟩:=q;rw[hs]at h;simp only at h;obtain⟨e1,e2,e3,e4⟩:=QaD m r2 (Qz (hr2▸hr)) ws r3 hs;have hr3:Oct.IsB r3:=Qz (e4▸(Qz (hr2▸hr)));cases r3 with
       |nil=>simp[getIx]at h
       |cons w r4=>
        rw[getIx]at h;by_cases hg:(getR r4 n w).1≠0∨(wid (getR r4 n w).2:Int)≠w
        ·rw[if_pos hg]at h;cases h
        ·rw[if_neg hg]at h;simp only at h;have g1:(getR r4 n w).1=0:=Classical.byContradiction fun k=>hg (.inl k)
         have g2:(wid (getR r4 n w).2:Int)=w:=Classical.byContradiction fun k=>hg (.inr k)
         obtain⟨p1,p2,p3,p4⟩:=Pk.Qau r4 n w (Pk.Q0 fun x hx=>hr3 x (by simp[hx])) g1;generalize (getR r4 n w).2=ix at h g2 p1 p2 p3 p4;cases hd:dictL ws ix with
         |none=>rw[hd]at h;cases h
         |some l1=>
          rw[hd]at h;simp only at h
          split at h
          ·rename_i hw
           simp only[Option.some.injEq]at h;subst h;have hup:∀s∈l1,s∈ws:=fun s hs=>hw▸(QZ s l1).2 hs
           have hall:AllB l1:=fun s hs=>e3 s (hup s hs)
           obtain⟨d1,d2,d3⟩:=Qlc (hw▸(Qbr l1 hall).nodup) p4.nonneg hd;have hlen:l1.length=n:=by omega
           refine⟨⟨by omega,fun s hs=>e2 s (hup s hs)⟩,hall,.inr ?_⟩;have hix:ixT l1=ix:=by unfold ixT;rw[hw,d2]
           rw[hk,ht2,dictT,hlen,hix,hw,e1,hr2,e4,tailT,g2,p1,List.append_assoc]
          ·cases h
   ·cases h
theorem Qk9{l:List (List Int)}(h:OkT l):rgetT (plainT l)=some l:=by
 have:=QbN l [] h.2;rw[List.append_nil]at this;have hc:=QcD l.length (strsB l) h.1;have e:plainT l=1 :: (varB 9 (l.length:Int)++strsB l):=rfl;rw[e,QcS,hc];dsimp only;rw[if_pos rfl,this,fstT,sameT,if_pos e]
theorem Qmc{l:List (List Int)}(h:OkT l):rgetT (dictT l)=some l:=by
 have hw:OkT (wordsF l):=⟨Nat.le_trans (QaT l) h.1,fun s hs=>h.2 s ((QZ s l).1 hs)⟩;have hrw:rwordsT l.length (varB 9 ((wordsF l).length:Int)++strsB (wordsF l)++tailT (ixT l))=some l:=by
  have:=QaT l;unfold rwordsT;rw[List.append_assoc,In.readV_var (wordsF l).length _ (by have:=hw.1;omega)];simp only[In.QbQ,Int.toNat_natCast];rw[if_neg (by omega),QbN (wordsF l) _ hw.2];unfold tailT;simp only;rw[Qhq (by have:=h.1;omega),if_neg (by simp)];exact Qiy
 have hc:=QcD l.length (varB 9 ((wordsF l).length:Int)++strsB (wordsF l)++tailT (ixT l)) h.1;have e:dictT l=2 :: (varB 9 (l.length:Int)++(varB 9 ((wordsF l).length:Int)++strsB (wordsF l)++tailT (ixT l))):=rfl;rw[e,QcS,hc];dsimp only;rw[if_neg (by decide),if_pos rfl,hrw,sameT,if_pos e]
theorem Qcr{b:List Int}(hb:Oct.IsB b){n:Nat}{r:List Int}(h:readC b=some (n,r)):n≤4096∧Oct.IsB r:=by
 obtain⟨h1,h2⟩:=Q5 hb h;exact⟨h1,Qz (h2▸hb)⟩
theorem Qmy{ws:List (List Int)}{ix:List Int}{l:List (List Int)}(h:dictL ws ix=some l):l.length=ix.length∧∀s∈l,s=[]∨s∈ws:=by
 unfold dictL at h
 split at h
 ·simp only[Option.some.injEq]at h;subst h;refine⟨by simp,fun s hs=>?_⟩;obtain⟨i,_,rfl⟩:=List.mem_map.1 hs;rw[List.getD_eq_getElem?_getD];by_cases hi:i.toNat<ws.length
  ·rw[List.getElem?_eq_getElem hi];exact .inr (List.getElem_mem _)
  ·rw[List.getElem?_eq_none (by omega)];exact .inl rfl
 ·cases h
theorem Qho{n:Nat}(hn:n≤4096){b:List Int}(hb:Oct.IsB b){l:List (List Int)}(h:rwordsT n b=some l):l.length=n∧OkT l∧AllB l:=by
 unfold rwordsT at h;obtain⟨x,e,m,hv⟩:∃x e m,readV 0 0 b=(x,e,m):=⟨_,_,_,rfl⟩;rw[hv]at h;simp only at h
 split at h
 ·cases h
 ·rename_i hc
  have he:e=0:=Classical.byContradiction fun k=>hc (.inl k)
  subst he;obtain⟨h0,-,hbe⟩:=In.QQ b hb x m hv;have hr:Oct.IsB (b.drop m):=In.Qn hb m;cases hs:readSs x.toNat (b.drop m) with
  |none=>rw[hs]at h;cases h
  |some q=>
   obtain⟨ws,r3⟩:=q;rw[hs]at h;obtain⟨e1,e2,e3,e4⟩:=QaD _ _ hr ws r3 hs;have hr3:Oct.IsB r3:=Qz (e4▸hr);cases r3 with
   |nil=>simp at h
   |cons w r4=>
    simp only at h
    split at h
    ·cases h
    ·rename_i hg
     have g1:(getR r4 n w).1=0:=Classical.byContradiction fun k=>hg k
     obtain⟨p1,p2,p3,p4⟩:=Pk.Qau r4 n w (Pk.Q0 fun x hx=>hr3 x (by simp[hx])) g1;obtain⟨d1,d2⟩:=Qmy h;refine⟨by omega,⟨by omega,fun s hs=>?_⟩,fun s hs=>?_⟩
     ·rcases d2 s hs with rfl|k
      ·simp
      ·exact e2 s k
     ·rcases d2 s hs with rfl|k
      ·intro x hx;cases hx
      ·exact e3 s k
theorem QdW{b:List Int}(hb:Oct.IsB b):rgetT b=getT b:=by
 cases hr:rgetT b with
 |some l=>
  match b,hb,hr with
  |k :: t,hb,hr=>
   have ht:Oct.IsB t:=fun x hx=>hb x (by simp[hx])
   rw[QcS]at hr;cases hc:readC t with
   |none=>rw[hc]at hr;cases hr
   |some p=>
    obtain⟨n,r⟩:=p;obtain⟨hn,hrb⟩:=Qcr ht hc;rw[hc]at hr;simp only at hr
    split at hr
    ·cases hs:readSs n r with
     |none=>rw[hs]at hr;cases hr
     |some q=>
      obtain⟨l1,r1⟩:=q;obtain⟨e1,e2,-,-⟩:=QaD n r hrb l1 r1 hs;rw[hs,fstT,sameT]at hr
      split at hr
      ·rename_i he
       simp only[Option.some.injEq]at hr;subst hr;rw[←he,QlZ ⟨by omega,e2⟩]
      ·cases hr
    ·split at hr
     ·cases hw:rwordsT n r with
      |none=>rw[hw]at hr;cases hr
      |some l1=>
       rw[hw,sameT]at hr
       split at hr
       ·rename_i he
        simp only[Option.some.injEq]at hr;subst hr;rw[←he,Qot (Qho hn hrb hw).2.1]
       ·cases hr
     ·cases hr
 |none=>
  cases hg:getT b with
  |none=>rfl
  |some l=>
   obtain⟨h1,h2,h3⟩:=QiB hb hg;rcases h3 with e|e
   ·rw[e,Qk9 h1]at hr;cases hr
   ·rw[e,Qmc h1]at hr;cases hr
end Tx
namespace Nu
open Go.RowKit
open Oct (varB readV)
open Pk (wid putR getR IsU Fit sizeN)
def formN(l:List Bool):Nat:=if cnt l=0 then 0 else if cnt l=l.length then 1 else 2
def numsL(l:List Bool):List Int:=l.map fun b=>if b=true then 1 else 0
def bitsB(l:List Bool):List Int:=(putR (numsL l) 1).2
def restB(l:List Bool):List Int:=if formN l=2 then bitsB l else []
def encN(l:List Bool):List Int:=varB 9 (l.length:Int)++(formN l:Int) :: restB l
def putN(l:List Bool):Int×List Int:=if 4096<l.length then(3,[]) else(0,encN l)
theorem Qf1(l:List Bool):formN l≤2:=by unfold formN;split <;> (try split) <;> omega
theorem Qd6(l:List Bool):(numsL l).length=l.length:=by simp[numsL]
theorem QiV(l:List Bool):Fit 1 (numsL l):=by
 intro x hx;obtain⟨b,_,rfl⟩:=List.mem_map.1 hx;cases b <;> decide
theorem Qf0(l:List Bool):IsU (numsL l):=Pk.Qhn (QiV l) (by decide)
theorem Qiv{l:List Bool}(h:l.length≤65536):(putR (numsL l) 1).1=0:=by
 refine(Pk.Qbw _ _).2 ⟨(Pk.Qy _ _).2 ?_,?_⟩
 ·rw[Qd6];omega
 ·have:=(Pk.Qbv (numsL l) 1 (Qf0 l).nonneg).2 (QiV l);omega
theorem Qjf{l:List Bool}(h:l.length≤65536):putR (numsL l) 1=(0,bitsB l):=by
 have:=Qiv h;unfold bitsB;rw[←this]
theorem QfQ{l:List Bool}(h:l.length≤65536):(bitsB l).length=sizeN l.length 1:=by
 have h1:=Pk.QfI (numsL l) 1 (Qiv h);rw[Qd6]at h1;unfold Pk.sizeF at h1;rw[if_pos ((Pk.Qy _ _).2 (by omega))]at h1;simp only[Int.toNat_natCast]at h1;have e:(1:Int).toNat=1:=rfl;rw[e]at h1;unfold bitsB;omega
def backL(x:List Int):List Bool:=x.map fun v=>decide (v=1)
theorem QmA{x:List Int}(h:Fit 1 x):numsL (backL x)=x:=by
 unfold backL numsL;rw[List.map_map];refine(List.map_congr_left fun v hv=>?_).trans (List.map_id x);have h1:=h v hv;have h2:v=0∨v=1:=by omega
 rcases h2 with rfl|rfl <;> rfl
theorem Qf9(x:List Int):(backL x).length=x.length:=by simp[backL]
theorem Qor(l:List Bool):Oct.IsB (bitsB l):=(Pk.Qfs (numsL l) 1).isB
theorem Qns(l:List Bool):Oct.IsB (restB l):=by
 unfold restB
 split
 ·exact Qor l
 ·intro x hx;cases hx
theorem QaS{l:List Bool}(h:l.length≤65536):Oct.IsB (encN l):=by
 have:=Qf1 l;refine In.QaR (In.QaY l.length (by omega)) ?_;intro x hx;rcases List.mem_cons.1 hx with e|e
 ·subst e;omega
 ·exact Qns l x e
theorem Qcg{n:Nat}(h:n≤65536):sizeN n 1≤8192:=by unfold sizeN;omega
theorem QnV{l:List Bool}(h:l.length≤65536):(restB l).length≤8192:=by
 unfold restB
 split
 ·rw[QfQ h];exact Qcg h
 ·exact Nat.zero_le _
theorem QdV{l:List Bool}(h:l.length≤65536):2≤(encN l).length∧(encN l).length≤8203:=by
 have h1:=QnV h;have h2:=Oct.QE 9 (l.length:Int);have h3:=Oct.QaN 9 (l.length:Int);unfold encN;rw[List.length_append,List.length_cons];omega
def readC(b:List Int):Option (Nat×List Int):=
 if (readV 0 0 b).2.1≠0∨4096<(readV 0 0 b).1 then none else some ((readV 0 0 b).1.toNat,b.drop (readV 0 0 b).2.2)
theorem Q5{b:List Int}(hb:Oct.IsB b){n:Nat}{r:List Int}(h:readC b=some (n,r)):n≤4096∧b=varB 9 (n:Int)++r:=by
 unfold readC at h;obtain⟨x,e,m,hv⟩:∃x e m,readV 0 0 b=(x,e,m):=⟨_,_,_,rfl⟩;rw[hv]at h;simp only at h
 split at h
 ·cases h
 ·rename_i hc
  have he:e=0:=Classical.byContradiction fun k=>hc (.inl k)
  subst he;obtain⟨h0,-,hbe⟩:=In.QQ b hb x m hv;obtain⟨k,rfl⟩:=Int.eq_ofNat_of_zero_le h0;rw[Int.toNat_natCast]at h;simp only[Option.some.injEq,Prod.mk.injEq]at h;obtain⟨rfl,rfl⟩:=h;exact⟨by omega,hbe⟩
def rdP(n:Nat)(r:List Int):Option (List Bool×List Int):=
 if r.length<sizeN n 1 then none else if (getR (r.take (sizeN n 1)) n 1).1≠0 then none else some (backL (getR (r.take (sizeN n 1)) n 1).2,r.drop (sizeN n 1))
def rdK(n:Nat)(k:Int)(r:List Int):Option (List Bool×List Int):=
 if k=0∨k=1 then some (List.replicate n (decide (k=1)),r) else if k=2 then rdP n r else none
def rdN(b:List Int):Option (Int×List Bool×List Int):=match readC b with
 |none=>none
 |some (_,[])=>none
 |some (n,k :: r)=>match rdK n k r with
  |none=>none
  |some (l,s)=>some (k,l,s)
def getN(b:List Int):Option (List Bool×List Int):=match rdN b with
 |none=>none
 |some (k,l,s)=>if (formN l:Int)=k then some (l,s) else none
def rgetN(b:List Int):Option (List Bool×List Int):=match rdN b with
 |none=>none
 |some (_,l,s)=>if encN l=b.take (b.length-s.length) then some (l,s) else none
def resN(b:List Int):Option (List Bool×List Int)→List Bool×Int×Int
 |some (l,s)=>(l,(b.length:Int)-(s.length:Int),0)
 |none=>([],0,4)
theorem Qz{a b:List Int}(h:Oct.IsB (a++b)):Oct.IsB b:=fun x hx=>h x (List.mem_append_right a hx)
theorem Qol{n:Nat}{r:List Int}(hr:Oct.IsB r){l:List Bool}{s:List Int}(h:rdP n r=some (l,s)):l.length=n∧r=bitsB l++s:=by
 unfold rdP at h
 split at h
 ·cases h
 ·rename_i h1
  split at h
  ·cases h
  ·rename_i h2
   have hg:(getR (r.take (sizeN n 1)) n 1).1=0:=Classical.byContradiction h2;simp only[Option.some.injEq,Prod.mk.injEq]at h;obtain⟨hl,hs⟩:=h;have hb:Fit 8 (r.take (sizeN n 1)):=Pk.Q0 (fun x hx=>hr x (List.mem_of_mem_take hx));obtain⟨p1,p2,p3,p4⟩:=Pk.Qau _ _ _ hb hg;have hf:Fit 1 (getR (r.take (sizeN n 1)) n 1).2:=(Pk.Qbv _ 1 p4.nonneg).1 (by omega);have hnb:=QmA hf;rw[hl]at hnb;refine⟨by rw[←hl,Qf9];omega,?_⟩;unfold bitsB;rw[hnb,p1,←hs,List.take_append_drop]
theorem Qnn{n:Nat}{k:Int}{r:List Int}(hr:Oct.IsB r){l:List Bool}{s:List Int}(h:rdK n k r=some (l,s)):l.length=n∧r=(if k=2 then bitsB l else [])++s:=by
 unfold rdK at h
 split at h
 ·rename_i h1
  simp only[Option.some.injEq,Prod.mk.injEq]at h;obtain⟨rfl,rfl⟩:=h;rw[if_neg (by omega)];exact⟨by simp,rfl⟩
 ·split at h
  ·rename_i h2
   rw[if_pos h2];exact Qol hr h
  ·cases h
theorem Qjo{b:List Int}(hb:Oct.IsB b){k:Int}{l:List Bool}{s:List Int}(h:rdN b=some (k,l,s)):l.length≤4096∧b=varB 9 (l.length:Int)++k :: ((if k=2 then bitsB l else [])++s):=by
 unfold rdN at h;cases hc:readC b with
 |none=>rw[hc]at h;cases h
 |some p=>
  obtain⟨n,r⟩:=p;obtain⟨hn,hbe⟩:=Q5 hb hc;rw[hc]at h;cases r with
  |nil=>cases h
  |cons k' r=>
   simp only at h;have hr:Oct.IsB r:=fun x hx=>Qz (hbe▸hb) x (List.mem_cons_of_mem _ hx)
   cases hk:rdK n k' r with
   |none=>rw[hk]at h;cases h
   |some q=>
    obtain⟨l1,s1⟩:=q;rw[hk]at h;simp only[Option.some.injEq,Prod.mk.injEq]at h;obtain⟨rfl,rfl,rfl⟩:=h;obtain⟨e1,e2⟩:=Qnn hr hk;exact⟨by omega,by rw[e1,←e2];exact hbe⟩
theorem Qa4{b:List Int}(hb:Oct.IsB b){l:List Bool}{s:List Int}(h:getN b=some (l,s)):l.length≤4096∧b=encN l++s:=by
 unfold getN at h;cases hr:rdN b with
 |none=>rw[hr]at h;cases h
 |some p=>
  obtain⟨k,l1,s1⟩:=p;rw[hr]at h;simp only at h
  split at h
  ·rename_i hf
   simp only[Option.some.injEq,Prod.mk.injEq]at h;obtain⟨rfl,rfl⟩:=h;obtain⟨h1,h2⟩:=Qjo hb hr;refine⟨h1,?_⟩;unfold encN restB;rw[h2,List.append_assoc,List.cons_append]
   congr 2
   ·exact hf.symm
   ·congr 1
    by_cases h3:k=2
    ·rw[if_pos h3,if_pos (by omega)]
    ·rw[if_neg h3,if_neg (by omega)]
  ·cases h
theorem QdW{b:List Int}(hb:Oct.IsB b):rgetN b=getN b:=by
 unfold rgetN getN;cases hr:rdN b with
 |none=>rfl
 |some p=>
  obtain⟨k,l,s⟩:=p;simp only;obtain⟨h1,h2⟩:=Qjo hb hr;have ht:b.take (b.length-s.length)=varB 9 (l.length:Int)++k :: (if k=2 then bitsB l else []):=by
   have e:b=(varB 9 (l.length:Int)++k :: (if k=2 then bitsB l else []))++s:=by rw[h2];simp
   rw[e,List.length_append,Nat.add_sub_cancel,List.take_left]
  rw[ht];by_cases hf:(formN l:Int)=k
  ·rw[if_pos hf,if_pos];unfold encN restB;rw[hf]
   congr 2
   by_cases h3:k=2
   ·rw[if_pos h3,if_pos (by omega)]
   ·rw[if_neg h3,if_neg (by omega)]
  ·rw[if_neg hf,if_neg];intro he;unfold encN at he;exact hf (List.cons.inj (List.append_cancel_left he)).1
end Nu
namespace Ref1
open Go.RowKit Go.Joins Bs Oct
theorem Qcx(k:Nat)(v:Int):putB (k+1) v=putB k v++[v / 2 ^ (8*k) % 256]:=by
 rw[QdY,Int.pow_mul]
 rfl
theorem Qb6(acc x:Int)(s:Nat)(h0:0≤acc)(h1:acc<2 ^ s)(h2:0≤x)(h3:x*2 ^ s<18446744073709551616)(h4:s<64):bits BinOp.or IntKind.u64 acc (x*2 ^ s)=acc+x*2 ^ s:=by
 have hp:(0:Int)<2 ^ s:=Int.pow_pos (by decide);have h5:0≤x*2 ^ s:=Int.mul_nonneg h2 (Int.le_of_lt hp);have h6:(2:Int) ^ s≤2 ^ 63:=by exact_mod_cast Nat.pow_le_pow_right (by decide:0<2) (by omega:s≤63)
 have h7:(2:Int) ^ 63=9223372036854775808:=by decide
 rw[u64_or acc _ h0 (by omega) h5 h3];obtain⟨a,rfl⟩:=Int.eq_ofNat_of_zero_le h0;obtain⟨y,rfl⟩:=Int.eq_ofNat_of_zero_le h2;have e:(y:Int)*2 ^ s=((2 ^ s*y:Nat):Int):=by rw[Nat.mul_comm,Int.natCast_mul,Int.natCast_pow];rfl
 rw[e,Int.toNat_natCast,Int.toNat_natCast,Nat.or_comm,←Nat.two_pow_add_eq_or_of_lt (by exact_mod_cast h1),Int.natCast_add,Int.add_comm]
theorem Qhh(l:List Int)(k:Nat)(hk:k<l.length)(hb:Oct.IsB l)(h8:l.length≤8) :
  0≤ofB (l.take k)∧ofB (l.take k)<2 ^ (8*k)∧0≤l.getD k 0∧l.getD k 0<256∧l.getD k 0*2 ^ (8*k)<18446744073709551616∧0≤l.getD k 0*2 ^ (8*k)∧ofB (l.take (k+1))=ofB (l.take k)+l.getD k 0*2 ^ (8*k):=by
 have e:∀i:Nat,(256:Int) ^ i=2 ^ (8*i):=fun i=>by rw[Int.pow_mul];rfl
 have h1:=QeU (l.take k) (fun x hx=>hb x (List.mem_of_mem_take hx));have hlk:(l.take k).length=k:=by rw[List.length_take];omega
 rw[hlk,e]at h1;have hg:l.getD k 0=l[k]:=by simp[List.getD,hk]
 have h2:=hb (l[k]) (List.getElem_mem hk);rw[hg];have hp:(0:Int)<2 ^ (8*k):=Int.pow_pos (by decide);have h3:l[k] * 2 ^ (8*k)<256*2 ^ (8*k):=Int.mul_lt_mul_of_pos_right h2.2 hp;have h4:(256:Int)*2 ^ (8*k)≤18446744073709551616:=by
  have:(256:Int)*2 ^ (8*k)=2 ^ (8+8*k):=by rw[Int.pow_add];rfl
  rw[this];have h5:(2:Nat) ^ (8+8*k)≤18446744073709551616:=Nat.le_trans (Nat.pow_le_pow_right (by decide:0<2) (by omega:8+8*k≤64)) (by decide);have h6:((2 ^ (8+8*k):Nat):Int)≤18446744073709551616:=by omega
  rw[Int.natCast_pow]at h6;exact h6
 refine⟨h1.1,h1.2,h2.1,h2.2,by omega,Int.mul_nonneg h2.1 (Int.le_of_lt hp),?_⟩;rw[List.take_succ_eq_append_getElem hk,Qiu,hlk,e]
theorem QgY(g o n c:Nat)(l:List Int)(w:World)(hs:Bs.Seg w (some ⟨g,o,none⟩) n c l)(hb:Oct.IsB l)(h8:n≤8) :
  Calls Tryz.prog 155 #[.slice (some ⟨g,o,none⟩) n c] w fun e w'=>e=.returned (.int .u64 (ofB l))∧w=w':=by
 have hl:=hs.len;have hc:∀j,j<n→w.cell? ⟨g,o+j,none⟩=some (.int .u8 (l.getD j 0)):=fun j hj=>by
  obtain⟨g',o',e,h⟩:=hs.addr (by omega);cases e
  exact h j hj
 have HS:=hid (fun k (hk:k<n)=>Qhh l k (by omega) hb (by omega));have HT:=hid (List.take_of_length_le (Nat.le_of_eq hl));have HC:=hid hc;clear hl hs hb hc;go_enter Tryz.func155,Tryz.ntmps155
 go_wp2
 go_loop [3,4] (fun sv si=>∃(k:Nat) (acc:Int),k≤n∧si=.int .i64 k∧sv=.int .u64 acc∧Hid (acc=ofB (l.take k))) (fun _ si=>n-(intOf si).toNat)
 case atStart=>exact⟨0,0,Nat.zero_le _,rfl,rfl,rfl⟩
 case round=>
  obtain⟨k,acc,hk,rfl,rfl,HA⟩:=hrel;by_cases hlt:k<n
  ·have g1:=HC.out k hlt;obtain⟨s1,s2,s3,s4,s5,s6,s7⟩:=HS.out k hlt;rw[←HA.out]at s1 s2 s7;have HS7:=hid s7;obtain⟨x,hx⟩:∃x,x=l.getD k 0:=⟨_,rfl⟩;rw[←hx]at g1 s3 s4 s5 s6;have HX:=hid hx;have ho:=Qb6 acc x (8*k) s1 s2 s3 s5 (by omega);clear hx s7;go_wp2
   go_round
   case rel=>exact⟨k+1,acc+x*2 ^ (8*k),by omega,by go_num,rfl,hid (by rw[HS7.out,HX.out])⟩
   case measure=>simp[intOf];omega
  ·obtain rfl:k=n:=by omega
   go_wp2;go_ret
   exact⟨Bs.Qq (by rw[HA.out,HT.out]),rfl⟩
def GrowB(base:Nat)(w:World)(l:List Int)(n:Nat)(e:Ending)(w':World):Prop:=
 ∃g c,e=.returned (.slice (some ⟨g,0,none⟩) n c)∧w'.ownsRow base 5 1 (.slice (some ⟨g,0,none⟩) n c) n (l.map (Value.int .u8))∧Below base w w'
end Ref1
namespace Ref1
open Go.RowKit Go.Joins Bs Oct
theorem Qay(base:Nat)(v0:Value)(n:Nat)(l:List Int)(v:Int)(m:Nat)(w:World)(hown:w.ownsRow base 5 1 v0 n (l.map (Value.int .u8)))(hbase:base≤w.heap.size)(_h0:0≤v)(_h1:v<18446744073709551616)(m1:1≤m)(m8:m≤8)(hn:n≤70368744177664) :
  Calls Tryz.prog 66 #[v0,.int .u64 v,.int .i64 m] w (GrowB base w (l++putB m v) (n+m)):=by
 obtain⟨i0,hi,hz0,hz1,hz2⟩:=info_parts Bs.Qj;go_enter Tryz.func66,Tryz.ntmps66
 go_wp2
 go_loopw [0,7] (fun sv i wr=>∃(k:Nat) (V:Value),k≤m∧i=.int .i64 k∧V=sv∧wr.ownsRow base 5 1 V (n+k) ((l++putB k v).map (Value.int .u8))∧Below base w wr)
  (fun _ i _=>m-(intOf i).toNat)
 case atStart=>exact⟨0,v0,by omega,rfl,rfl,by simpa [putB] using hown,Below.refl _ _⟩
 case round=>
  obtain⟨k,V,hk,rfl,rfl,hown,hgr⟩:=hrel;by_cases hlt:k<m
  ·have HP:=hid (Qcx k v);have hb2:base≤wr.heap.size:=Nat.le_trans hbase hgr.size;go_wp2_with (at_builtin;refine wpList_append_own _ rfl (.tmp 20) (.tmp 27) 45 rfl base 5 i0 (.int .u8 0) 1 1 Tryz.underlying45 hi hz0 hz1 hz2 rfl (by decide) V (n+k) ((l++putB k v).map (Value.int .u8)) rfl (hown.alloc _) ⟨wr.heap.size,0,none⟩ 1 1 [.int .u8 (v / 2 ^ (8*k) % 256)] rfl rfl (by intro t u ht;match t,ht with|0,ht=>simp at ht;subst ht;simp[Addr.add]) (by intro u hu;simp at hu;subst hu;rfl) (by unfold maxLen;omega) (by omega) (by simp;omega) ?_;intro v' w1 hown1 hgrow1 _)
   go_roundw
   case rel=>
    refine⟨k+1,_,by omega,by go_num,rfl,?_,(hgr.alloc hb2 _).grown hgrow1 (by simp;omega) (fun i e=>(hown.lt i e).1)⟩;rw[HP.out,←List.append_assoc,List.map_append];exact hown1
   case measure=>simp[intOf];omega
  ·obtain rfl:k=m:=by omega
   obtain⟨g,c,rfl⟩:=ownsRow_form hown (by omega);have HF:Hid (GrowB base w (l++putB k v) (n+k) (.returned (.slice (some ⟨g,0,none⟩) (n+k) c)) wr):=⟨g,c,rfl,hown,hgr⟩;clear hown hgr;go_wp2;go_ret
   exact HF.out
end Ref1
namespace Tx
open Go.RowKit
open Ss (IsS)
def longI(l:List (List Int)):Int:=match l.findIdx? (fun s=>decide (65536<s.length)) with
 |some i=>(i:Int)
 |none=>-1
theorem QoM(l:List (List Int))(k:Nat)(hk:k<l.length)(h:∀s∈l.take k,s.length≤65536)(hl:65536<(l.getD k []).length):longI l=(k:Int):=by
 have:l.findIdx? (fun s=>decide (65536<s.length))=some k:=by
  rw[List.findIdx?_eq_some_iff_getElem];refine⟨hk,?_,fun j hj=>?_⟩
  ·rw[List.getD_eq_getElem?_getD,List.getElem?_eq_getElem hk]at hl
   simpa using hl
  ·have:=h (l[j]'(by omega)) (List.mem_take_iff_getElem.2 ⟨j,by omega,rfl⟩)
   simpa using this
 rw[longI,this]
theorem Qnz(l:List (List Int))(h:∀s∈l,s.length≤65536):longI l=-1:=by
 have:l.findIdx? (fun s=>decide (65536<s.length))=none:=by
  rw[List.findIdx?_eq_none_iff];intro s hs;have:=h s hs
  simpa using this
 rw[longI,this]
theorem QmS(l:List (List Int)):0≤longI l↔¬∀s∈l,s.length≤65536:=by
 unfold longI;cases hf:l.findIdx? (fun s=>decide (65536<s.length)) with
 |some i=>
  obtain⟨hk,h1,_⟩:=List.findIdx?_eq_some_iff_getElem.1 hf;refine⟨fun _ h=>?_,fun _=>by simp⟩;have:=h _ (List.getElem_mem hk);simp at h1;omega
 |none=>
  refine⟨fun h=>by simp at h,fun h=>absurd (fun s hs=>?_) h⟩;have:=List.findIdx?_eq_none_iff.1 hf s hs
  simpa using this
theorem QeD{l:List (List Int)}{k:Nat}(hk:k<l.length)(h:∀s∈l.take k,s.length≤65536)(hl:(l.getD k []).length≤65536):∀s∈l.take (k+1),s.length≤65536:=by
 intro s hs;rw[List.take_succ_eq_append_getElem hk]at hs;rcases List.mem_append.1 hs with hs|hs
 ·exact h s hs
 ·rw[List.mem_singleton.1 hs];rw[List.getD_eq_getElem?_getD,List.getElem?_eq_getElem hk]at hl
  simpa using hl
theorem QlH(x:List Int)(w:World):Calls Tryz.prog 186 #[.string (strOfNums x)] w fun e w'=>e=.returned (.bool (decide (65536<(x.length:Int))))∧w=w':=by
 have hs:=strOfNums_size x;obtain⟨m,hm⟩:∃m,x.length=m:=⟨_,rfl⟩;rw[hm]at hs ⊢;clear hm;go_enter Tryz.func186,Tryz.ntmps186
 go_wp2;go_ret
 exact⟨rfl,rfl⟩
theorem Qif(a:Option Addr)(n c:Nat)(l:List (List Int))(w:World)(hs:Ss.Seg w a n c l) :
  Calls Tryz.prog 194 #[.slice a n c,.func (.func 186) #[] #[]] w fun e w'=>e=.returned (.int .i64 (longI l))∧∃m,w'=w.drewN m:=by
 have hm:=hs.cap;have hle:=hs.le;unfold maxLen at hm;have HL:=hid hs.len;have HS:=hid hs;clear hs;go_enter Tryz.func194,Tryz.ntmps194
 go_wp2
 go_loopw [8] (fun si wr=>∃k m:Nat,k≤n∧si=.int .i64 k∧wr=w.drewN m∧Hid (∀s∈l.take k,s.length≤65536)) (fun si _=>n-(intOf si).toNat)
 case atStart=>exact⟨0,0,Nat.zero_le _,rfl,rfl,hid fun s hs=>by simp at hs⟩
 case round=>
  obtain⟨k,m,hk,rfl,rfl,HK⟩:=hrel;by_cases hlt:k<n
  ·obtain⟨g,o,rfl,hc⟩:=HS.out.addr (by omega);have q0:=hc k hlt;obtain⟨x,hx⟩:∃x,l.getD k []=x:=⟨_,rfl⟩;rw[hx]at q0;have HC:=hid (fun W=>QlH x W);by_cases hlong:65536<x.length
   ·have HF:Hid (longI l=(k:Int)):=hid (QoM l k (by rw[HL.out];exact hlt) HK.out (by rw[hx];exact hlong));have hd:decide (65536<(x.length:Int))=true:=decide_eq_true (by omega);rw[hd]at HC;clear hc hx hlong hd;go_wp2_with (go_at_call 186;refine(HC.out _).mono ?_;rintro e w' ⟨rfl,rfl⟩)
    go_ret
    exact⟨Bs.Qq HF.out.symm,m,rfl⟩
   ·have HF:Hid (∀s∈l.take (k+1),s.length≤65536):=hid (QeD (by rw[HL.out];exact hlt) HK.out (by rw[hx];omega));have hd:decide (65536<(x.length:Int))=false:=decide_eq_false (by omega);rw[hd]at HC;clear hc hx hlong hd;go_wp2_with (go_at_call 186;refine(HC.out _).mono ?_;rintro e w' ⟨rfl,rfl⟩)
    go_roundw
    case rel=>exact⟨k+1,m,by omega,by go_num,by simp,HF⟩
    case measure=>simp[intOf];omega
  ·obtain rfl:k=n:=by omega
   have HF:Hid (longI l=-1):=hid (Qnz l (by have:=HK.out;rwa [List.take_of_length_le (Nat.le_of_eq HL.out)]at this));go_wp2;go_ret
   exact⟨Bs.Qq HF.out.symm,m,rfl⟩
theorem QjV(a:Option Addr)(n c:Nat)(l:List (List Int))(w:World)(hs:Ss.Seg w a n c l) :
  Calls Tryz.prog 185 #[.slice a n c,.func (.func 186) #[] #[]] w fun e w'=>e=.returned (.bool (decide (0≤longI l)))∧∃m,w'=w.drewN m:=by
 have HC:=hid (Qif a n c l w hs);obtain⟨x,hx⟩:∃x,longI l=x:=⟨_,rfl⟩;rw[hx]at HC ⊢;clear hs hx;go_enter Tryz.func185,Tryz.ntmps185
 go_wp2_with (go_at_call 194;refine HC.out.mono ?_;rintro e w' ⟨rfl,m,rfl⟩)
 go_ret
 exact⟨rfl,m,rfl⟩
theorem QkW(a:Option Addr)(n c:Nat)(l:List (List Int))(w:World)(hs:Ss.Seg w a n c l) :
  Calls Tryz.prog 168 #[.slice a n c] w fun e w'=>e=.returned (.bool (okB l))∧∃m,w'=w.drewN m:=by
 have HC:=hid (QjV a n c l w hs);have HL:=hid hs.len;by_cases hn:n≤4096
 ·have hok:okB l=!decide (0≤longI l):=by
   have h1:=QaJ l;have h2:=QmS l;by_cases h:0≤longI l
   ·rw[decide_eq_true h];refine Bool.eq_false_iff.2 fun k=>h2.1 h (h1.1 k).2
   ·rw[decide_eq_false h];exact h1.2 ⟨by rw[HL.out];exact hn,Classical.byContradiction fun k=>h (h2.2 k)⟩
  have HO:=hid hok;clear hok hs;obtain⟨y,hy⟩:∃y,decide (0≤longI l)=y:=⟨_,rfl⟩;rw[hy]at HC HO;clear hy;have hn':(n:Int)≤4096:=by omega
  go_enter Tryz.func168,Tryz.ntmps168
  go_wp2_with (go_at_call 185;refine HC.out.mono ?_;rintro e w' ⟨rfl,m,rfl⟩)
  go_ret
  exact⟨Bs.Qbl HO.out.symm,m,rfl⟩
 ·have hok:okB l=false:=Bool.eq_false_iff.2 fun k=>hn (by have:=((QaJ l).1 k).1;rwa [HL.out]at this)
  have HO:=hid hok;clear hok hs HC;have hn':¬(n:Int)≤4096:=by omega
  go_enter Tryz.func168,Tryz.ntmps168
  go_wp2;go_ret
  exact⟨Bs.Qbl HO.out.symm,0,rfl⟩
end Tx
end Go.Proofs.YtljanfnhmhimiaaGreat
