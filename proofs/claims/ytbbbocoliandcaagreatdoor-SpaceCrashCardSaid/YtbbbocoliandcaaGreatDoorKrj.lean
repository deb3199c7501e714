/- Parts of the proof. -/
import Derived.Test.YtbbbocoliandcaaGreatDoorKrJ
import Derived.Test.YtbbbocoliandcaaGreatDoorKri
set_option maxRecDepth 100000
set_option maxHeartbeats 8000000
open Go.Lib (hid)
namespace Go.Proofs.YtbbbocoliandcaaGreatDoor
namespace Sp
open Go.RowKit Bs Dv Gr
open Cn (CnOk)
open Su (Sup SupOk T4)
def Sh(w0 w:World)(sg g:Nat)(A:Nat→Prop)(s:SpS):Prop:=∃x:Nm,x.sg=sg∧x.g=g∧SpM w0 w x s∧∀k,A k→k<w.heap.size∧¬x.fp k
def Rs(w0 w:World)(rg sg g:Nat)(A:Nat→Prop)(r:Rn):Prop:=∃v:Rv,v.rg=rg∧v.x.sg=sg∧v.x.g=g∧RnM w0 w v r∧∀k,A k→k<w.heap.size∧¬v.fp k
def Stay(w w':World)(A:Nat→Prop):Prop:=Turn w w' fun k=>¬A k
theorem Qem{W:World}{b:Nat}{t:Int}{a:Option Addr}{n c:Nat}{S:ByteArray}(h:W.heap[b]?=some (.cells #[.int .u8 t,.slice a n c,.string S] 40 (0,0))):W.cell? ⟨b,0,none⟩=some (.int .u8 t)∧W.cell? ⟨b,1,none⟩=some (.slice a n c)∧W.cell? ⟨b,2,none⟩=some (.string S):=by
 refine⟨?_,?_,?_⟩ <;> rw[cell_of_row _ _ _ _ _ _ h] <;> rfl
theorem Qkd(W:World)(b:Int):(convert 101 9 (.slice (some ⟨W.heap.size,0,none⟩) 1 1)).run Tryz.prog (W.alloc (.cells #[.int .u8 b] 5))=.ok (.string (strOfNums [b])) (W.alloc (.cells #[.int .u8 b] 5)):=
 Qat W.heap.size 0 1 1 [b] _ (fun j x hx=>by
  match j,hx with
  |0,hx=>
   have hx:some b=some x:=hx;cases hx
   exact⟨Su.Qak W _ _,by unfold World.frozen?;rw[heap_alloc_new];simp⟩
  |j+1,hx=>cases hx) rfl
section
variable {w0 w w' : World} {sg g : Nat} {A : Nat → Prop} {s s' : SpS}
theorem Stay.Qm(k:w.grownBy w' none):Stay w w' A:=(Qd k).mono (fun _ _ e=>e.elim)
theorem Stay.trans{w2:World}(h:Stay w w' A)(k:Stay w' w2 A):Stay w w2 A:=Turn.trans h k (fun _ _ e=>e)
theorem Stay.block(h:Stay w w' A){k:Nat}(hk:A k)(hl:k<w.heap.size):w'.heap[k]?=w.heap[k]?:=Turn.block h k hl (fun e=>e hk)
theorem Stay.cell(h:Stay w w' A){p:Addr}{v:Value}(hc:w.cell? p=some v)(hp:A p.block):w'.cell? p=some v:=Turn.cell h hc (fun e=>e hp)
theorem Stay.seg(h:Stay w w' A){a:Option Addr}{n c:Nat}{l:List Int}(hs:Ws.Seg w a n c l)(hp:∀ad,a=some ad→A ad.block):Ws.Seg w' a n c l:=Qs hs h (fun ad had e=>e (hp ad had))
theorem Sh.gr(h:Sh w0 w sg g A s):w0.grownBy w none:=by
 obtain⟨x,-,-,h,-⟩:=h;exact h.gr
theorem Sh.go(h:Sh w0 w sg g A s)(k:w.grownBy w' none):Sh w0 w' sg g A s:=by
 obtain⟨x,a,b,h,d⟩:=h;exact⟨x,a,b,h.go k,fun i hi=>⟨Nat.lt_of_lt_of_le (d i hi).1 k.size,(d i hi).2⟩⟩
theorem Sh.less{B:Nat→Prop}(h:Sh w0 w sg g A s)(k:∀i,B i→A i):Sh w0 w sg g B s:=by
 obtain⟨x,a,b,h,d⟩:=h;exact⟨x,a,b,h,fun i hi=>d i (k i hi)⟩
theorem Sh.more{B:Nat→Prop}(h:Sh w0 w sg g A s)(k:w.grownBy w' none)(hB:∀i,B i→A i∨(w.heap.size≤i∧i<w'.heap.size)):Sh w0 w' sg g B s:=by
 obtain⟨x,a,b,h,d⟩:=h;refine⟨x,a,b,h.go k,fun i hi=>?_⟩;rcases hB i hi with q|q
 ·exact⟨Nat.lt_of_lt_of_le (d i q).1 k.size,(d i q).2⟩
 ·exact⟨q.2,fun e=>by have:=h.lt e;omega⟩
theorem Sh.op{x:Nm}(_h:SpM w0 w x s)(d:∀k,A k→k<w.heap.size∧¬x.fp k)(o:Op w0 w x s' w'):Sh w0 w' x.sg x.g A s'∧Stay w w' A:=by
 obtain⟨x',a,b,c,t,e⟩:=o;exact⟨⟨x',a,b,c,fun k hk=>⟨Nat.lt_of_lt_of_le (d k hk).1 t.size,fun q=>(e k q).elim (d k hk).2 (fun z=>by have:=(d k hk).1;omega)⟩⟩,t.mono (fun k _ q z=>(d k z).2 q)⟩
theorem Sh.of{x:Nm}(h:SpM w0 w x s):Sh w0 w x.sg x.g (fun _=>False) s:=⟨x,rfl,rfl,h,fun _ e=>e.elim⟩
theorem Sh.lt(h:Sh w0 w sg g A s){k:Nat}(hk:A k):k<w.heap.size:=by
 obtain⟨x,-,-,-,d⟩:=h;exact(d k hk).1
end
section
variable {w0 w w' : World} {sg g : Nat} {A : Nat → Prop} {s s' : SpS} {own hown mown : List Nat} {T : Nat}
theorem Qfa(h:Sh w0 w sg g A s){n:Nat}(hn:(frees s).length=n):Calls Tryz.prog 20 #[.pointer (some ⟨sg,0,none⟩)] w fun e w'=>e=.returned (.int .i64 (n:Int))∧w=w':=by
 obtain⟨x,rfl,rfl,h,d⟩:=h;subst hn;exact Qf4 h
theorem QhM(h:Sh w0 w sg g A s):Calls Tryz.prog 29 #[.pointer (some ⟨sg,0,none⟩)] w fun e w'=>e=.returned (.int .u32 s.sup.root)∧w=w':=by
 obtain⟨x,rfl,rfl,h,d⟩:=h;exact QkQ h
theorem QgR(h:Sh w0 w sg g A s):Calls Tryz.prog 30 #[.pointer (some ⟨sg,0,none⟩)] w fun e w'=>e=.returned (.int .u64 s.sup.gen)∧w=w':=by
 obtain⟨x,rfl,rfl,h,d⟩:=h;exact QlB h
theorem QgS(h:Sh w0 w sg g A s)(hp:s.sup.pages.length≤100000)(n:Nat)(hn:n<4294967296):Calls Tryz.prog 25 #[.pointer (some ⟨sg,0,none⟩),.int .u32 (n:Int)] w (GetX s n w):=by
 obtain⟨x,rfl,rfl,h,d⟩:=h;exact Qar h n hn hp
def ShX(w0 w:World)(sg g:Nat)(A:Nat→Prop)(v:Value)(s':SpS)(e:Ending)(w':World):Prop:=e=.returned v∧Sh w0 w' sg g A s'∧Stay w w' A
theorem QgU(h:Sh w0 w sg g A s)(hk:SpOk s own hown mown T)(hT:T≤1000)(p:Pg)(a:Option Addr)(c:Nat)(ho:PgOk p)(hs:Ws.Seg w a p.kids.length c p.kids)(hdl:p.data.length≤1000000000){n:Nat}{l:List Nat}(he:putErr s p=0)(hf:frees s=n :: l) :
  Calls Tryz.prog 16 #[.pointer (some ⟨sg,0,none⟩),.agg #[.int .u8 p.tag,.slice a p.kids.length c,.string (strOfNums p.data)]] w (ShX w0 w sg g A (.tuple #[.int .u32 (n:Int),.int .i64 0]) (putP s p n)):=by
 obtain⟨x,rfl,rfl,h,d⟩:=h;exact(QG h hk hT p a c ho hs hdl he hf).mono fun e w' q=>⟨q.1,Sh.op h d q.2⟩
theorem Ql3(h:Sh w0 w sg g A s)(hk:SpOk s own hown mown T)(n:Nat)(own2:List Nat)(hp:∀m,(n :: own2).count m=own.count m){c:List Int}(hc:GoodC s.dv s.sup.pages c own2)(hcl:∀m,c.getD m 0≤s.now.getD m 0) :
  Calls Tryz.prog 19 #[.pointer (some ⟨sg,0,none⟩),.int .u32 (n:Int)] w (ShX w0 w sg g A (.int .i64 0) { s with now:=c }):=by
 obtain⟨x,rfl,rfl,h,d⟩:=h;exact(Qly h hk n own2 hp hc hcl).mono fun e w' q=>⟨q.1,Sh.op h d q.2⟩
theorem QjJ(h:Sh w0 w sg g A s)(hk:SpOk s own hown mown T)(hT:T≤1000)(root:Nat)(hn:root<4294967296)(hr:root=0∨root∈own)(hT4:T4 w0) :
  Calls Tryz.prog 27 #[.pointer (some ⟨sg,0,none⟩),.int .u32 (root:Int)] w (ShX w0 w sg g A (.int .i64 0) (commitP s root)):=by
 obtain⟨x,rfl,rfl,h,d⟩:=h;exact(QbT h hk hT root hn hr hT4).mono fun e w' q=>⟨q.1,Sh.op h d q.2⟩
theorem QhK(h:Sh w0 w sg g A s){sup:Sup}{held:List Int}{slot:Nat}(hk:Kept s.dv sup held slot)(hok:CnOk s.dv.size s.dv.blocks held)(hT4:T4 w0) :
  Calls Tryz.prog 15 #[.pointer (some ⟨g,0,none⟩)] w fun e w'=>∃sg',e=.returned (.tuple #[.pointer (some ⟨sg',0,none⟩),.int .i64 0])∧Sh w0 w' sg' g A ⟨s.dv,sup,held,held,none,slot⟩∧w.grownBy w' none:=by
 obtain⟨x,rfl,rfl,h,d⟩:=h;refine(open_yes w0 w x.g x.b x.P s.dv h.dev sup held slot hk hok hT4).mono ?_;rintro e w' ⟨y,e1,e2,e3,e4,hm,hg,hn,hf⟩;refine⟨y.sg,e1,⟨y,rfl,e2,hm,fun k hk=>⟨Nat.lt_of_lt_of_le (d k hk).1 hg.size,fun q=>?_⟩⟩,hg⟩;rcases hf k q with z|z
 ·exact(d k hk).2 (.inl (.inr (.inr z)))
 ·have:=(d k hk).1;omega
end
section
variable {w0 w w' : World} {rg sg g : Nat} {A : Nat → Prop} {r r' : Rn}
theorem Rs.gr(h:Rs w0 w rg sg g A r):w0.grownBy w none:=by
 obtain⟨v,-,-,-,h,-⟩:=h;exact h.gr
theorem Rs.cell(h:Rs w0 w rg sg g A r):w.cell? ⟨rg,0,none⟩=some (.pointer (some ⟨g,0,none⟩))∧w.cell? ⟨rg,1,none⟩=some (.pointer (some ⟨sg,0,none⟩)):=by
 obtain⟨v,rfl,rfl,rfl,h,-⟩:=h;exact⟨h.box.cells.1,h.box.cells.2.1⟩
theorem Rs.own(h:Rs w0 w rg sg g A r):∃a c,w.cell? ⟨rg,2,none⟩=some (.slice a r.own.length c)∧Ws.Seg w a r.own.length c (ints r.own):=by
 obtain⟨v,rfl,rfl,rfl,h,-⟩:=h;exact⟨v.oa,v.oc,h.box.cells.2.2.1,h.o⟩
theorem Rs.root(h:Rs w0 w rg sg g A r):w.cell? ⟨rg,6,none⟩=some (.int .u32 (r.root:Int)):=by
 obtain⟨v,rfl,rfl,rfl,h,-⟩:=h;exact h.box.cells.2.2.2.2.2.2
theorem Rs.op{v:Rv}(_h:RnM w0 w v r)(d:∀k,A k→k<w.heap.size∧¬v.fp k)(o:RnOp w0 w v r' w'):(∃sg',Rs w0 w' v.rg sg' v.x.g A r')∧Stay w w' A:=by
 obtain⟨v',a,b,c,t,e⟩:=o;exact⟨⟨v'.x.sg,v',a,rfl,b,c,fun k hk=>⟨Nat.lt_of_lt_of_le (d k hk).1 t.size,fun q=>(e k q).elim (d k hk).2 (fun z=>by have:=(d k hk).1;omega)⟩⟩,t.mono (fun k _ q z=>(d k z).2 q)⟩
theorem Rs.of{v:Rv}(h:RnM w0 w v r):Rs w0 w v.rg v.x.sg v.x.g (fun _=>False) r:=⟨v,rfl,rfl,rfl,h,fun _ e=>e.elim⟩
def DoS(w0 w:World)(rg g:Nat)(A:Nat→Prop)(r:Rn)(a:AcT)(T:Nat)(e:Ending)(w':World):Prop:=
 ∃(n er:Int) (r':Rn) (sg:Nat),e=.returned (.tuple #[.int .u32 n,.int .i64 er])∧DoR a r n er r'∧RnOk r' (T+1)∧Rs w0 w' rg sg g A r'∧Stay w w' A
theorem rs_do{T:Nat}(h:Rs w0 w rg sg g A r)(hk:RnOk r T)(hT:T≤1000)(a:AcT)(ha:AcOk a)(hT4:T4 w0) :
  Calls Tryz.prog 39 #[.pointer (some ⟨rg,0,none⟩),.agg (acV a)] w (DoS w0 w rg g A r a T):=by
 obtain⟨v,rfl,rfl,rfl,h,d⟩:=h;refine(Qmf h hk hT a ha hT4).mono ?_;rintro e w' hx;obtain⟨n,er,r',e1,dr,o⟩:=hx;obtain⟨⟨sg',hr⟩,ht⟩:=Rs.op h d o;exact⟨n,er,r',sg',e1,dr,dr.ok hk hT ha,hr,ht⟩
end
end Sp
namespace Sp
open Go.RowKit Bs Dv Gr
open Fr (getF)
open Oct (ofB)
def tellK(f:Nat→List Int):List Int→List Int
 | []=>[]
 |k :: l=>f k.toNat++44 :: tellK f l
def tellF(s:SpS):Nat→Nat→List Int
 |0,_=>[63]
 |d+1,n=>if getErr s n≠0 then [63] else match pageF s.dv.blocks (s.dv.last n) with
  |none=>[63]
  |some p=>p.tag :: (p.data++40 :: (tellK (tellF s d) p.kids++[41]))
theorem QeQ(f:Nat→List Int)(k:Int):∀l:List Int,tellK f (l++[k])=tellK f l++(f k.toNat++[44])
 | []=>rfl
 |j :: l=>by
  rw[List.cons_append,tellK,tellK,QeQ f k l,List.append_assoc,List.cons_append]
theorem Qcz{f:Nat→List Int}{B:Nat}(h:∀n,(f n).length≤B):∀l:List Int,(tellK f l).length≤l.length*(B+1)
 | []=>by simp[tellK]
 |k :: l=>by
  have h1:=Qcz h l;have h2:=h k.toNat;rw[tellK,List.length_append,List.length_cons,List.length_cons,Nat.add_mul];omega
theorem Qfx{K:Nat}{b:List Int}{p:Pg}(h:pageF K b=some p):4*p.kids.length+p.data.length+2≤b.length:=by
 unfold pageF at h;by_cases h1:(getF b).2≠0∨(getF b).1.1<3∨(getF b).1.2.2.length<2∨((getF b).1.2.2.length:Int)<2+4*ofB ((getF b).1.2.2.take 2)
 ·rw[if_pos h1]at h;cases h
 ·rw[if_neg h1]at h;by_cases h2:∀x∈Su.chunks (ofB ((getF b).1.2.2.take 2)).toNat ((getF b).1.2.2.drop 2),2≤x∧x<(K:Int)
  ·rw[if_pos h2]at h;have hp:=Option.some.inj h;have h3:(getF b).1.2.2.length≤b.length:=by
    have h0:(getF b).2=0:=Decidable.not_not.1 (fun q=>h1 (.inl q));unfold getF at h0 ⊢;by_cases q1:¬Fr.Fits b.length
    ·rw[if_pos q1]at h0;cases h0
    ·rw[if_neg q1]at h0 ⊢;by_cases q2:¬Fr.Good b
     ·rw[if_pos q2]at h0;cases h0
     ·rw[if_neg q2]at h0 ⊢;by_cases q3:¬Fr.Shape b
      ·rw[if_pos q3]at h0;cases h0
      ·rw[if_neg q3]
       show(Fr.dat b).length≤_
       unfold Fr.dat;simp;omega
   have h4:∀(k:Nat) (l:List Int),(Su.chunks k l).length≤k:=fun k=>by
    induction k with
    |zero=>intro l;exact Nat.le_refl _
    |succ k ih=>
     intro l;rw[Su.chunks];by_cases q:l.length<4
     ·rw[if_pos q];exact Nat.zero_le _
     ·rw[if_neg q,List.length_cons];have:=ih (l.drop 4);omega
   rw[←hp]
   show 4*(Su.chunks _ _).length+(List.drop _ _).length+2≤_
   rw[List.length_drop];have h7:=h4 (ofB ((getF b).1.2.2.take 2)).toNat ((getF b).1.2.2.drop 2);have h5:¬((getF b).1.2.2.length:Int)<2+4*ofB ((getF b).1.2.2.take 2):=fun q=>h1 (.inr (.inr (.inr q)))
   have h6:¬(getF b).1.2.2.length<2:=fun q=>h1 (.inr (.inr (.inl q)))
   omega
  ·rw[if_neg h2]at h;cases h
theorem QgY{s:SpS}(hs:s.dv.Ok)(h5:s.dv.size≤512):∀(d n:Nat),(tellF s d n).length≤1000*200 ^ d
 |0,n=>by show 1≤_;decide
 |d+1,n=>by
  have hpos:0<200 ^ d:=Nat.pow_pos (by decide);have hb:1000*200 ^ (d+1)=200*(1000*200 ^ d):=by rw[Nat.pow_succ];omega
  obtain⟨B,hB⟩:∃B,1000*200 ^ d=B:=⟨_,rfl⟩;have hB1:1000≤B:=by omega
  have ih:∀n,(tellF s d n).length≤B:=fun n=>by rw[←hB];exact QgY hs h5 d n
  rw[hb,hB];unfold tellF;by_cases q:getErr s n≠0
  ·rw[if_pos q];show 1≤_;omega
  ·rw[if_neg q];cases hp:pageF s.dv.blocks (s.dv.last n) with
   |none=>show 1≤_;omega
   |some p=>
    have h1:=Qfx hp;have h0:=Decidable.not_not.1 q;have hn:n<s.dv.blocks:=by
     unfold getErr at h0;by_cases z:useE s n≠0
     ·rw[if_pos z]at h0;exact absurd h0 z
     ·exact(QdI (Decidable.not_not.1 z)).2.1
    have h2:=(hs.last hn).1;have h3:=Qcz ih p.kids
    show(p.tag :: (p.data++40 :: (tellK (tellF s d) p.kids++[41]))).length≤_
    rw[List.length_cons,List.length_append,List.length_cons,List.length_append];have h4:p.kids.length≤128:=by omega
    have h6:p.kids.length*(B+1)≤128*(B+1):=Nat.mul_le_mul_right _ h4
    show p.data.length+((tellK (tellF s d) p.kids).length+1+1)+1≤_
    omega
end Sp
namespace Sp
open Go.RowKit Bs Dv Gr
open Su (Sup SupOk GeoOk putS getS supE)
open Cn (CnOk)
theorem Qbc{α:Type}(d:α):((8:Int),d).1≠0:=by
 show(8:Int)≠0
 decide
theorem QeR:∀(W:List (Nat×List Int)) (d:Dv.St),(∀q∈W,q.1<d.blocks∧q.2.length=d.size) →
  ((tryW d W).1≠0∧(tryW d W).2.dur=d.dur∧∃k,(tryW d W).2.pend=d.pend++W.take k)∨((tryW d W).1=0∧(tryW d W).2.dur=d.dur∧(tryW d W).2.pend=d.pend++W)
 | [],d,_=>.inr ⟨rfl,rfl,(List.append_nil _).symm⟩
 |q :: W,d,h=>by
  have hq:=h q (List.mem_cons_self ..);have hb:d.hasB ((q.1:Nat):Int):=by unfold St.hasB;omega
  have hw:wr1 d q=if d.fuse=0 then(8,d) else(0,{ d.burn with pend:=d.pend++[q] }):=by
   unfold wr1 St.write;rw[if_neg (fun z=>z ⟨hb,hq.2⟩),Int.toNat_natCast]
  unfold tryW;by_cases hf:d.fuse=0
  ·rw[if_pos hf]at hw;rw[hw,if_pos (Qbc d)];exact .inl ⟨Qbc d,rfl,0,by rw[List.take_zero,List.append_nil]⟩
  ·rw[if_neg hf]at hw;rw[hw,if_neg (fun z=>z rfl)];have ih:=QeR W { d.burn with pend:=d.pend++[q] } (fun z hz=>h z (List.mem_cons_of_mem _ hz));rcases ih with ⟨a,b,k,c⟩|⟨a,b,c⟩
   ·exact .inl ⟨a,b,k+1,by rw[c,List.take_succ_cons];show(d.pend++[q])++W.take k=_;rw[List.append_assoc];rfl⟩
   ·exact .inr ⟨a,b,by rw[c];show(d.pend++[q])++W=_;rw[List.append_assoc];rfl⟩
theorem QiD(d:Dv.St)(W:List (Nat×List Int))(o:Nat)(sb:List Int)(h:∀q∈W,q.1<d.blocks∧q.2.length=d.size)(ho:o<d.blocks)(hs:sb.length=d.size) :
  ((saveR d W o sb).1≠0∧(saveR d W o sb).2.dur=d.dur∧∃k,(saveR d W o sb).2.pend=d.pend++W.take k) ∨
  ((saveR d W o sb).1≠0∧(saveR d W o sb).2.dur=laid d.dur (d.pend++W)∧((saveR d W o sb).2.pend=[]∨(saveR d W o sb).2.pend=[(o,sb)])) ∨
  ((saveR d W o sb).1=0∧(saveR d W o sb).2.dur=(laid d.dur (d.pend++W)).set o sb∧(saveR d W o sb).2.pend=[]):=by
 obtain⟨t1,t2⟩:=Qdi W d;unfold saveR;rcases QeR W d h with ⟨a,b,k,c⟩|⟨a,b,c⟩
 ·rw[if_pos a];exact .inl ⟨a,b,k,c⟩
 ·rw[if_neg (fun z=>z a)];obtain⟨e,hd⟩:∃e,(tryW d W).2=e:=⟨_,rfl⟩;rw[hd]at b c t1 t2 ⊢;by_cases hf:e.fuse=0
  ·have he:e.flush=(8,e):=by unfold St.flush;rw[if_pos hf]
   rw[he,if_pos (Qbc e)];exact .inl ⟨Qbc e,b,W.length,by rw[c,List.take_length]⟩
  ·have he:e.flush=(0,{ e.burn with dur:=laid e.dur e.pend,pend:=[] }):=by unfold St.flush;rw[if_neg hf]
   rw[he,if_neg (fun z=>z rfl)];obtain⟨e2,hd2⟩:∃e2,({ e.burn with dur:=laid e.dur e.pend,pend:=[] }:Dv.St)=e2:=⟨_,rfl⟩;have hdur:e2.dur=laid d.dur (d.pend++W):=by rw[←hd2,←b,←c]
   have hpd:e2.pend=[]:=by rw[←hd2]
   have hbl:e2.blocks=d.blocks:=by rw[←hd2];exact t2
   have hsz:e2.size=d.size:=by rw[←hd2];exact t1
   rw[hd2];have hb:e2.hasB ((o:Nat):Int):=by unfold St.hasB;omega
   have hw:e2.write (o:Int) sb=if e2.fuse=0 then(8,e2) else(0,{ e2.burn with pend:=e2.pend++[(o,sb)] }):=by
    unfold St.write;rw[if_neg (fun z=>z ⟨hb,by omega⟩),Int.toNat_natCast]
   by_cases hf2:e2.fuse=0
   ·rw[if_pos hf2]at hw;rw[hw,if_pos (Qbc e2)];exact .inr (.inl ⟨Qbc e2,hdur,.inl hpd⟩)
   ·rw[if_neg hf2]at hw;rw[hw,if_neg (fun z=>z rfl)];obtain⟨e3,hd3⟩:∃e3,({ e2.burn with pend:=e2.pend++[(o,sb)] }:Dv.St)=e3:=⟨_,rfl⟩;have hdur3:e3.dur=laid d.dur (d.pend++W):=by rw[←hd3];exact hdur
    have hpd3:e3.pend=[(o,sb)]:=by rw[←hd3];show e2.pend++[(o,sb)]=_;rw[hpd];rfl
    show((((0:Int),({ e2.burn with pend:=e2.pend++[(o,sb)] }:Dv.St)).2.flush).1≠0∧_)∨_
    rw[hd3];by_cases hf3:e3.fuse=0
    ·have he3:e3.flush=(8,e3):=by unfold St.flush;rw[if_pos hf3]
     rw[he3];exact .inr (.inl ⟨Qbc e3,hdur3,.inr hpd3⟩)
    ·have he3:e3.flush=(0,{ e3.burn with dur:=laid e3.dur e3.pend,pend:=[] }):=by unfold St.flush;rw[if_neg hf3]
     rw[he3];refine .inr (.inr ⟨rfl,?_,rfl⟩)
     show laid e3.dur e3.pend=_
     rw[hdur3,hpd3]
     rfl
section
variable {s t : SpS} {own own2 : List Nat}
theorem Qgn(h:GoodC s.dv s.sup.pages s.now own){n:Nat}(hn:0<dOf s.sup.pages s.now n):getErr s n=0∧∃p,pageF s.dv.blocks (s.dv.last n)=some p:=by
 obtain⟨a,b,c,_⟩:=QaR hn;have hlt:=h.ref.lt hn;have hp:=h.has n hn;have hu:useE s n=0:=by
  unfold useE accE;rw[if_neg (show ¬(n<2∨s.dv.blocks≤n) by omega),if_neg b,if_neg (fun q=>q rfl),if_neg (by omega)]
 cases hpg:pageF s.dv.blocks (s.dv.last n) with
 |none=>rw[hpg]at hp;cases hp
 |some p=>
  refine⟨?_,p,rfl⟩;unfold getErr;rw[hu,if_neg (fun q=>q rfl),hpg,if_neg (fun q=>by cases q)]
theorem QdF(h:GoodC s.dv s.sup.pages s.now own)(k:GoodC t.dv t.sup.pages t.now own2)(hb:t.dv.blocks=s.dv.blocks)(hl:∀m,0<dOf s.sup.pages s.now m→t.dv.last m=s.dv.last m) :
  ∀(d n:Nat),0<dOf s.sup.pages s.now n→0<dOf t.sup.pages t.now n→tellF t d n=tellF s d n
 |0,n,_,_=>rfl
 |d+1,n,h1,h2=>by
  obtain⟨g1,p,hp⟩:=Qgn h h1;obtain⟨g2,_⟩:=Qgn k h2;have hpt:pageF t.dv.blocks (t.dv.last n)=some p:=by rw[hb,hl n h1];exact hp
  have hk1:kidsOf s.dv n=p.kids.map Int.toNat:=by unfold kidsOf;rw[hp]
  have hk2:kidsOf t.dv n=p.kids.map Int.toNat:=by unfold kidsOf;rw[hpt]
  have hks:∀l:List Int,(∀j∈l,j∈p.kids)→tellK (tellF t d) l=tellK (tellF s d) l:=fun l=>by
   induction l with
   |nil=>intro _;rfl
   |cons j l il=>
    intro hj;have hm:=hj j (List.mem_cons_self ..);have m1:j.toNat∈kidsOf s.dv n:=by rw[hk1];exact List.mem_map_of_mem hm
    have m2:j.toNat∈kidsOf t.dv n:=by rw[hk2];exact List.mem_map_of_mem hm
    rw[tellK,tellK,QdF h k hb hl d j.toNat (h.ref.live h1 m1) (k.ref.live h2 m2),il (fun i hi=>hj i (List.mem_cons_of_mem _ hi))]
  unfold tellF;rw[g1,g2,if_neg (fun q=>q rfl),if_neg (fun q=>q rfl),hp,hpt]
  show p.tag :: (p.data++40 :: (tellK (tellF t d) p.kids++[41]))=_
  rw[hks p.kids (fun _ q=>q)]
end
theorem Qcv{s:Dv.St}{pages c:List Int}{own:List Nat}(h:GoodC s pages c own){n:Nat}(hn:n∈own):0<dOf pages c n:=h.ref.Qa0 hn
def opened(d:Dv.St)(sup:Sup)(held:List Int)(slot:Nat):SpS:=⟨d,sup,held,held,none,slot⟩
structure Aft (s:SpS) (root next:Nat) (E:Int) (t:Dv.St) (sup:Sup) (held:List Int) (slot:Nat):Prop where
 kept:Kept t sup held slot
 cok:CnOk t.size t.blocks held
 tells:(E≠0∧sup.gen=s.sup.gen∧sup.root=(root:Int)∧(root≠0→tellF (opened t sup held slot) 6 root=tellF (opened s.dv s.sup s.held s.slot) 6 root)) ∨
  (sup.gen=s.sup.gen+1∧sup.root=(next:Int)∧(next≠0→tellF (opened t sup held slot) 6 next=tellF s 6 next))
section
variable {s : SpS} {own hown mown : List Nat} {T : Nat} {root next : Nat}
theorem Qhx(h:SpOk s own hown mown T)(hr:(root:Int)=s.sup.root){E:Int}(hE:E≠0){t:Dv.St}(hb:t.blocks=s.dv.blocks)(hs:t.size=s.dv.size)(hk:Kept t s.sup s.held s.slot)(hg:GoodC t s.sup.pages s.held hown)(hl:∀m,0<dOf s.sup.pages s.held m→t.last m=s.dv.last m) :
  Aft s root next E t s.sup s.held s.slot:=by
 refine⟨hk,by rw[hs,hb];exact h.held.cok,.inl ⟨hE,rfl,hr.symm,fun h0=>?_⟩⟩;have hm:root∈hown:=by
  rcases h.root with q|q
  ·omega
  ·rw[←hr,Int.toNat_natCast]at q;exact q
 exact QdF (s:=opened s.dv s.sup s.held s.slot) (t:=opened t s.sup s.held s.slot) h.held hg hb hl 6 root (Qcv h.held hm) (Qcv hg hm)
theorem Qhw(h:SpOk s own hown mown T)(hT:T≤1000)(hn:next=0∨next∈own){E:Int}{t:Dv.St}(hb:t.blocks=s.dv.blocks)(hs:t.size=s.dv.size)(hk:Kept t (newSup s next) (newNow s) (1-s.slot))(hg:GoodC t (newSup s next).pages (newNow s) own)(hl:∀m,0<dOf s.sup.pages s.now m→t.last m=s.dv.last m) :
  Aft s root next E t (newSup s next) (newNow s) (1-s.slot):=by
 have hc:=h.commit (root:=next) hT (hn.imp (fun e=>by omega) (fun e=>⟨by omega,by rw[Int.toNat_natCast];exact e⟩));refine⟨hk,by rw[hs,hb];exact hg.cok |> fun q=>by rw[hs,hb]at q;exact q,.inr ⟨rfl,rfl,fun h0=>?_⟩⟩;have hm:next∈own:=hn.resolve_left h0;exact QdF (s:=s) (t:=opened t (newSup s next) (newNow s) (1-s.slot)) h.now hg hb hl 6 next (Qcv h.now hm) (Qcv hg hm)
def setF(s:SpS)(f:Int):SpS:={ s with dv:=s.dv.setFuse f }
theorem QjI(h:s.dv.fuse=-1)(f:Int):calm (setF s f)=s:=by
 obtain⟨⟨a,b,c,d,e,g⟩,i,j,k,l,m⟩:=s;have h:g=-1:=h;subst h
 rfl
theorem QiX(h:SpOk s own hown mown T)(hT:T≤1000)(hr:(root:Int)=s.sup.root)(hn:next=0∨next∈own)(f:Int){l:List (Int×Nat)}(hl:picksOk (comR (setF s f) next).2 l)
  (hch:(comR (setF s f) next).1≠0→((comR (setF s f) next).2.crash l).last (1-s.slot)=s.dv.last (1-s.slot)∨(getS (((comR (setF s f) next).2.crash l).last (1-s.slot))).2≠0∨∃q∈(comR (setF s f) next).2.pend,q.2=((comR (setF s f) next).2.crash l).last (1-s.slot)) :
  ∃sup held slot,Aft s root next (comR (setF s f) next).1 ((comR (setF s f) next).2.crash l) sup held slot:=by
 have hrr:((next:Nat):Int)=0∨(0≤((next:Nat):Int)∧((next:Nat):Int).toNat∈own):=hn.imp (fun e=>by omega) (fun e=>⟨by omega,by rw[Int.toNat_natCast];exact e⟩);have hp:=h.QdS hT hrr;have hw:=h.QbN;have hsl:=h.slots;have hblo:=h.dok.blo;have hsf:=QcG (s.dv.setFuse f) (newWrites s) (1-s.slot) (putS (newSup s next)).1;have hsc:=QiD (s.dv.setFuse f) (newWrites s) (1-s.slot) (putS (newSup s next)).1 (fun q hq=>⟨(hw q hq).1,(hw q hq).2.1⟩) (by show 1-s.slot<s.dv.blocks;omega) hp.1;have e0:comR (setF s f) next=saveR (s.dv.setFuse f) (newWrites s) (1-s.slot) (putS (newSup s next)).1:=rfl;rw[e0]at hl hch ⊢;obtain⟨R,hR⟩:∃R,saveR (s.dv.setFuse f) (newWrites s) (1-s.slot) (putS (newSup s next)).1=R:=⟨_,rfl⟩;rw[hR]at hsf hsc hl hch ⊢;obtain⟨E,d2⟩:=R;have hs:d2.size=s.dv.size:=hsf.1;have hb:d2.blocks=s.dv.blocks:=hsf.2;have hl:picksOk d2 l:=hl;have hch:E≠0→(d2.crash l).last (1-s.slot)=s.dv.last (1-s.slot)∨(getS ((d2.crash l).last (1-s.slot))).2≠0∨∃q∈d2.pend,q.2=(d2.crash l).last (1-s.slot):=hch
 show ∃sup held slot,Aft s root next E (d2.crash l) sup held slot
 have hs2:(d2.crash l).size=s.dv.size:=hs;have hb2:(d2.crash l).blocks=s.dv.blocks:=hb;have hold:∀m,0<dOf s.sup.pages s.held m→oldB s m:=fun m hm=>.inr (.inr (.inr hm))
 rcases hsc with ⟨a,b,k,c⟩|⟨a,b,c⟩|⟨a,b,c⟩
 ·have hd:d2.dur=s.dv.dur:=b;have hpd:d2.pend=s.dv.pend++(newWrites s).take k:=c;obtain⟨k1,k2,k3⟩:=h.QiZ hs hb hd (fun q hq=>by
   rw[hpd]at hq;rcases List.mem_append.1 hq with z|z
   ·exact .inl z
   ·refine .inr ?_;rw[←h.QcO];exact List.mem_map_of_mem (List.mem_of_mem_take z)) l hl
  exact⟨_,_,_,Qhx h hr a hb2 hs2 k1 k2 (fun m hm=>k3 m (hold m hm))⟩
 ·have hd:d2.dur=laid s.dv.dur (s.dv.pend++newWrites s):=b;have hpp:∀q∈d2.pend,q.1=1-s.slot∧q.2=(putS (newSup s next)).1:=fun q hq=>by
   rcases c with z|z
   ·have z:d2.pend=[]:=z;rw[z]at hq;cases hq
   ·have z:d2.pend=[(1-s.slot,(putS (newSup s next)).1)]:=z;rw[z]at hq;rw[List.mem_singleton.1 hq];exact⟨rfl,rfl⟩
  have hlive:∀m,0<dOf s.sup.pages s.held m→m≠1-s.slot:=fun m hm=>by have:=(QaR hm).1;omega
  have torn:(getS ((d2.crash l).last (1-s.slot))).2≠0∨(d2.crash l).last (1-s.slot)=s.dv.last (1-s.slot)→∃sup held slot,Aft s root next E (d2.crash l) sup held slot:=fun hx=>by
   obtain⟨k1,k2,k3⟩:=h.QhW hs hb hd (fun q hq=>(hpp q hq).1) l hl hx;exact⟨_,_,_,Qhx h hr a hb2 hs2 k1 k2 (fun m hm=>k3 m (hold m hm) (hlive m hm))⟩
  rcases hch a with z|z|⟨q,hq,z⟩
  ·exact torn (.inr z)
  ·exact torn (.inl z)
  ·obtain⟨k1,k2,k3⟩:=h.QiY hT hrr hs hb hd (fun q hq=>(hpp q hq).1) l hl (by rw[←z];exact(hpp q hq).2);exact⟨_,_,_,Qhw h hT hn hb2 hs2 k1 k2 k3⟩
 ·have hd:d2.dur=(laid s.dv.dur (s.dv.pend++newWrites s)).set (1-s.slot) (putS (newSup s next)).1:=b;have hpd:d2.pend=[]:=c;have hc:=h.commit hT hrr;obtain⟨c1,c2,c3,c4⟩:=h.Qan hT hrr;have hls:∀m,(d2.crash l).last m=(commitP s next).dv.last m:=fun m=>by
   rw[QbD d2 l hl m (fun q hq=>by rw[hpd]at hq;cases hq),Qgi (commitP s next).dv m (fun q hq=>by rw[c4]at hq;cases hq),c4,hd]
  have hsz:(commitP s next).dv.size=s.dv.size:=by rw[c4]
  have hbz:(commitP s next).dv.blocks=s.dv.blocks:=by rw[c4]
  have k1:Kept (d2.crash l) (newSup s next) (newNow s) (1-s.slot):=hc.kept.kept (by rw[hs2,hsz]) (by rw[hb2,hbz]) (hls 0) (hls 1) (fun p _=>hls _);have k2:GoodC (d2.crash l) (newSup s next).pages (newNow s) own:=hc.held.kept (by rw[hs2,hsz]) (by rw[hb2,hbz]) (fun m _=>hls m);refine⟨_,_,_,Qhw h hT hn hb2 hs2 k1 k2 (fun m hm=>?_)⟩;obtain⟨a1,a2,a3,_⟩:=QaR hm;rw[hls m,c3 m (h.now.ref.lt hm) (by omega) (fun q=>by have:=(h.Qau q).2.2.2.1;omega)]
end
end Sp
namespace Sp
open Go.RowKit Bs Dv Gr
section
variable {w0 w : World} {sg g : Nat} {A : Nat → Prop} {s : SpS}
theorem Qhu{s:SpS}(hs:s.dv.Ok)(h5:s.dv.size≤512){d:Nat}(hd:d≤5)(n:Nat):(tellF s d n).length≤320000000000000:=by
 refine Nat.le_trans (QgY hs h5 d n) ?_;have:200 ^ d≤200 ^ 5:=Nat.pow_le_pow_right (by decide) hd;have e:(200:Nat) ^ 5=320000000000:=by decide
 omega
theorem Qet(h:Sh w0 w sg g A s)(hp:s.sup.pages.length≤100000)(h5:s.dv.size≤512):∀(d:Nat),d≤6→∀(n:Nat),n<4294967296→∀W,w.grownBy W none →
  Calls Tryz.prog 58 #[.pointer (some ⟨sg,0,none⟩),.int .u32 (n:Int),.int .i64 (d:Int)] W fun e w'=>e=.returned (.string (strOfNums (tellF s d n)))∧W.grownBy w' none:=by
 have hdok:s.dv.Ok:=by
  obtain⟨x,-,-,hm,-⟩:=h;exact hm.dev.dev.ok
 have H63:Hid (strOfNums [63]=⟨#[63]⟩):=hid rfl;intro d
 induction d with
 |zero=>
  intro hd n hn W hW;have HG:=hid (QgS (h.go hW) hp n hn);clear hW;go_enter Tryz.func58,Tryz.ntmps58
  go_wp2_with fail
  refine HG.out.mono ?_;rintro e w1 ⟨hg1,hx⟩;have HC1:=hid (heap_alloc_new w1 (.cells #[.int .u8 0,.slice none 0 0,.string ⟨#[]⟩] 40));have HG1:=hid (Qa hg1 (Qb w1 (.cells #[.int .u8 0,.slice none 0 0,.string ⟨#[]⟩] 40)));have HZ1:=hid hg1.size;rcases hx with ⟨hE,rfl⟩|⟨p,a,c,hE,hpg,rfl,hsg,hnw⟩
  ·obtain⟨E,hEE⟩:∃E,getErr s n=E:=⟨_,rfl⟩;rw[hEE]at hE ⊢;have q1:(E != 0)=true:=bne_iff_ne.2 hE;clear hE hEE hg1;dsimp only[zeroPg];go_wp2_with (first
    |(with_reducible refine Qw rfl (.tmp 7) (.tmp 15) rfl w1.heap.size rfl (.int .u8 0) (.slice none 0 0) (.string ⟨#[]⟩) rfl rfl rfl rfl _ _ _ HC1.out ?_;intro w6 hq6 ht6)
    |fail)
   have HX:=hid (Qi HG1.out ht6 HZ1.out);clear hq6 ht6;go_wp2;go_ret
   exact⟨by rw[←H63.out];rfl,HX.out⟩
  ·obtain⟨t,l,S,e1,e2,e3⟩:∃t l S,p.tag=t∧p.kids.length=l∧strOfNums p.data=S:=⟨_,_,_,rfl,rfl,rfl⟩;have hv:pgV p a p.kids.length c=#[.int .u8 t,.slice a l c,.string S]:=by unfold pgV;rw[e1,e2,e3]
   rw[hv];clear hE hpg hsg hnw e1 e2 e3 hg1 hv;dsimp only;go_wp2_with (first
    |(with_reducible refine Qw rfl (.tmp 7) (.tmp 15) rfl w1.heap.size rfl (.int .u8 t) (.slice a l c) (.string S) rfl rfl rfl rfl _ _ _ HC1.out ?_;intro w6 hq6 ht6)
    |fail)
   have HX:=hid (Qi HG1.out ht6 HZ1.out);clear hq6 ht6;go_wp2;go_ret
   exact⟨by rw[←H63.out];rfl,HX.out⟩
 |succ d ih=>
  intro hd n hn W hW;have HG:=hid (QgS (h.go hW) hp n hn);have HB:Hid (∀k,(tellF s d k).length≤320000000000000):=hid (fun k=>Qhu hdok h5 (by omega) k);have HIH:Hid (∀(k:Nat),k<4294967296→∀V,W.grownBy V none→Calls Tryz.prog 58 #[.pointer (some ⟨sg,0,none⟩),.int .u32 (k:Int),.int .i64 (d:Int)] V fun e w'=>e=.returned (.string (strOfNums (tellF s d k)))∧V.grownBy w' none):=hid (fun k hk V hV=>ih (by omega) k hk V (Qa hW hV));have HT:Hid (tellF s (d+1) n=if getErr s n≠0 then [63] else match pageF s.dv.blocks (s.dv.last n) with
   |none=>[63]
   |some p=>p.tag :: (p.data++40 :: (tellK (tellF s d) p.kids++[41]))):=hid rfl
  have HLN:Hid (n<s.dv.blocks→(s.dv.last n).length=s.dv.size):=hid (fun q=>(hdok.last q).1);have H5:=hid h5;obtain⟨D,hD⟩:∃D:Int,((d+1:Nat):Int)=D:=⟨_,rfl⟩;have qd:(D==0)=false:=beq_eq_false_iff_ne.2 (by omega);have hwd:IntKind.i64.wrap (D-1)=(d:Int):=by rw[show D-1=(d:Int) by omega];exact IntWalk.i64_in _ (by omega)
  rw[hD];have HDK:=hid hdok;clear hW ih h hD hd h5 hdok;go_enter Tryz.func58,Tryz.ntmps58
  go_wp2_with fail
  refine HG.out.mono ?_;rintro e w1 ⟨hg1,hx⟩;have HC1:=hid (heap_alloc_new w1 (.cells #[.int .u8 0,.slice none 0 0,.string ⟨#[]⟩] 40));have HG1:=hid (Qa hg1 (Qb w1 (.cells #[.int .u8 0,.slice none 0 0,.string ⟨#[]⟩] 40)));have HZ1:=hid hg1.size;have HG0:=hid hg1;have HA1:=hid (Qb w1 (.cells #[.int .u8 0,.slice none 0 0,.string ⟨#[]⟩] 40));rcases hx with ⟨hE,rfl⟩|⟨p,a,c,hE,hpg,rfl,hsg,hnw⟩
  ·obtain⟨E,hEE⟩:∃E,getErr s n=E:=⟨_,rfl⟩;have HTT:Hid (tellF s (d+1) n=[63]):=hid (by rw[HT.out,if_pos hE]);rw[hEE]at hE ⊢;have q1:(E != 0)=true:=bne_iff_ne.2 hE;clear hE hEE hg1 HT;dsimp only[zeroPg];go_wp2_with (first
    |(with_reducible refine Qw rfl (.tmp 7) (.tmp 15) rfl w1.heap.size rfl (.int .u8 0) (.slice none 0 0) (.string ⟨#[]⟩) rfl rfl rfl rfl _ _ _ HC1.out ?_;intro w6 hq6 ht6)
    |fail)
   have HX:=hid (Qi HG1.out ht6 HZ1.out);clear hq6 ht6;go_wp2;go_ret
   exact⟨by rw[HTT.out,H63.out];rfl,HX.out⟩
  ·have HTT:Hid (tellF s (d+1) n=p.tag :: (p.data++40 :: (tellK (tellF s d) p.kids++[41]))):=hid (by rw[HT.out,if_neg (fun q=>q hE),hpg]);have hbd:=Qfx hpg;have hnb:n<s.dv.blocks:=by
    unfold getErr at hE;by_cases z:useE s n≠0
    ·rw[if_pos z]at hE;exact absurd hE z
    ·exact(QdI (Decidable.not_not.1 z)).2.1
   rw[HLN.out hnb]at hbd;have HBD:Hid (p.kids.length≤128∧p.data.length≤512):=hid (by have:=H5.out;omega);have HKD:Hid (∀k∈p.kids,0≤k∧k.toNat<4294967296):=hid (fun k hk=>by
    have h1:=Qfw hpg k hk;have h2:=HDK.out.bhi;omega)
   obtain⟨t,l,S,e1,e2,e3⟩:∃t l S,p.tag=t∧p.kids.length=l∧strOfNums p.data=S:=⟨_,_,_,rfl,rfl,rfl⟩;have hv:pgV p a p.kids.length c=#[.int .u8 t,.slice a l c,.string S]:=by unfold pgV;rw[e1,e2,e3]
   have HSS:Hid (S.size=p.data.length):=hid (by rw[←e3,strOfNums_size]);have HE1:=hid e1;have HE3:=hid e3;rw[hv];rw[e2]at hsg HBD;have HLK:=hid e2;clear hE hpg e1 e2 e3 hg1 hv HT hbd hnb hnw;dsimp only;go_upto_region 4 with (first
    |(with_reducible refine Qw rfl (.tmp 7) (.tmp 15) rfl w1.heap.size rfl (.int .u8 t) (.slice a l c) (.string S) rfl rfl rfl rfl _ _ _ HC1.out ?_;intro w6 hq6 ht6)
    |fail)
   have HX:=hid (Qi HG1.out ht6 HZ1.out);have HSG6:=hid (hsg.grown (Qi HA1.out ht6 (Nat.le_refl _)));obtain⟨c0,c1,c2⟩:=Qem hq6;have HQ6:=hid hq6;have hcv:=Qkd w6 t;have hg7:=Qb w6 (.cells #[.int .u8 t] 5);have d2:=(Qd hg7).cell c2 id;have HG7:=hid hg7;have z1:¬9223372036854775807<(strOfNums [t]).size+S.size:=by
    have h1:=HBD.out;have h2:=HSS.out;rw[strOfNums_size]
    show ¬9223372036854775807<1+S.size
    omega
   have z2:¬9223372036854775807<(strOfNums [t]).size+S.size+1:=by
    have h1:=HBD.out;have h2:=HSS.out;rw[strOfNums_size]
    show ¬9223372036854775807<1+S.size+1
    omega
   have HR:Hid (strOfNums [t]++S++⟨#[40]⟩=strOfNums (p.tag :: (p.data++[40]))):=hid (by
    rw[←HE3.out,←HE1.out,show(⟨#[40]⟩:ByteArray)=strOfNums [40] from rfl,Qa6,Qa6]
    congr 1)
   obtain⟨T0,hT0⟩:∃T0,strOfNums [t]=T0:=⟨_,rfl⟩;rw[hT0]at hcv z1 z2 HR;clear hq6 ht6 hT0 hsg hg7;go_upto_region 5 with fail
   rw[HR.out];have HX7:=hid (Qa HX.out HG7.out);have HQ7:=hid (Ql HQ6.out HG7.out);have HSG7:=hid (HSG6.out.grown HG7.out);obtain⟨W7,hW7⟩:∃X,w6.alloc (.cells #[.int .u8 t] 5)=X:=⟨_,rfl⟩;rw[hW7]at HX7 HQ7 HSG7 ⊢;obtain⟨Z0,hZ0⟩:∃Z,strOfNums (p.tag :: (p.data++[40]))=Z:=⟨_,rfl⟩;rw[hZ0];have HZ0:Hid (Z0=strOfNums (p.tag :: (p.data++40 :: tellK (tellF s d) (p.kids.take 0)))):=hid (by rw[←hZ0];rfl);clear c0 c1 c2 d2 hcv hW7 hZ0 z1 z2 HR HX HG7 HQ6 HSG6;go_wp2
   go_loopw [9,10] (fun sz si wr=>∃(i:Nat) (Z1:ByteArray),i≤l∧si=.int .i64 (i:Int)∧sz=.string Z1∧Hid (Z1=strOfNums (p.tag :: (p.data++40 :: tellK (tellF s d) (p.kids.take i))))∧Hid (W7.grownBy wr none)) (fun _ si _=>l-(intOf si).toNat)
   case atStart=>exact⟨0,Z0,Nat.zero_le _,rfl,rfl,HZ0,hid (QC _)⟩
   case round=>
    clear HZ0;obtain⟨i,Z1,hil,rfl,rfl,HZ,HGR⟩:=hrel;have c1:wr.cell? ⟨w1.heap.size,1,none⟩=some (.slice a l c):=(Qem (Ql HQ7.out HGR.out)).2.1;have hl128:l≤128:=HBD.out.1;by_cases hlt:i<l
    ·have hq:decide (i<l)=true:=decide_eq_true hlt;have hi2:i<p.kids.length:=by rw[HLK.out];exact hlt
     obtain⟨gk,ok,rfl,hk⟩:=(HSG7.out.grown HGR.out).addr (by omega);have b0:=hk i hlt;have hkb:=HKD.out (p.kids.getD i 0) (by rw[List.getD_eq_getElem?_getD,List.getElem?_eq_getElem hi2];exact List.getElem_mem hi2);have HTK:Hid (p.kids.take (i+1)=p.kids.take i++[p.kids.getD i 0]):=hid (by rw[List.take_succ_eq_append_getElem hi2,List.getD_eq_getElem?_getD,List.getElem?_eq_getElem hi2];rfl);obtain⟨k,hkk⟩:∃k:Nat,p.kids.getD i 0=(k:Int):=Int.eq_ofNat_of_zero_le hkb.1;rw[hkk]at b0 hkb HTK;have hk32:k<4294967296:=by have:=hkb.2;rw[Int.toNat_natCast]at this;exact this
     have hgw:W.grownBy wr none:=Qa HX7.out HGR.out;have HCL:=hid (HIH.out k hk32 wr hgw);have hRL:=HB.out k;obtain⟨R,hR⟩:∃R,strOfNums (tellF s d k)=R:=⟨_,rfl⟩;rw[hR]at HCL;have hRs:R.size≤320000000000000:=by rw[←hR,strOfNums_size];exact hRL
     have hZs:Z1.size≤1000+128*320000000000001:=by
      rw[HZ.out,strOfNums_size,List.length_cons,List.length_append,List.length_cons];have h1:=Qcz HB.out (p.kids.take i);rw[List.length_take]at h1;have h2:=HBD.out;have h3:min i p.kids.length≤128:=by omega
      have h4:min i p.kids.length*(320000000000000+1)≤128*(320000000000000+1):=Nat.mul_le_mul_right _ h3;omega
     have z1:¬9223372036854775807<Z1.size+R.size:=by omega
     have z2:¬9223372036854775807<Z1.size+R.size+1:=by omega
     have HZ2:Hid (Z1++R++⟨#[44]⟩=strOfNums (p.tag :: (p.data++40 :: tellK (tellF s d) (p.kids.take (i+1))))):=hid (by
      rw[HZ.out,←hR,show(⟨#[44]⟩:ByteArray)=strOfNums [44] from rfl,Qa6,Qa6,HTK.out,QeQ,Int.toNat_natCast]
      congr 1
      simp)
     clear hkk hkb hk32 hgw hRL hR hRs hZs hk hi2;go_wp2_with (first|(go_at_call 58;refine HCL.out.mono ?_;rintro e w9 ⟨rfl,hg9⟩;have HG9:=hid hg9;clear hg9)|fail)
     rw[HZ2.out];go_roundw
     case rel=>exact⟨i+1,_,by omega,by go_num,rfl,hid rfl,hid (Qa HGR.out HG9.out)⟩
     case measure=>simp[intOf];omega
    ·have hq:decide (i<l)=false:=decide_eq_false hlt;obtain rfl:i=l:=by omega
     have hZs:Z1.size≤1000+128*320000000000001:=by
      rw[HZ.out,strOfNums_size,List.length_cons,List.length_append,List.length_cons];have h1:=Qcz HB.out (p.kids.take i);rw[List.length_take]at h1;have h2:=HBD.out;have h3:min i p.kids.length≤128:=by omega
      have h4:min i p.kids.length*(320000000000000+1)≤128*(320000000000000+1):=Nat.mul_le_mul_right _ h3;omega
     have z1:¬9223372036854775807<Z1.size+1:=by omega
     have HZ2:Hid (Z1++⟨#[41]⟩=strOfNums (tellF s (d+1) n)):=hid (by
      rw[HZ.out,HTT.out,show(⟨#[41]⟩:ByteArray)=strOfNums [41] from rfl,Qa6,List.take_of_length_le (Nat.le_of_eq HLK.out)]
      congr 1
      simp)
     have HE:=hid (Qa HX7.out HGR.out);clear hZs;go_wp2;go_ret
     exact⟨Ql1 HZ2.out,HE.out⟩
end
end Sp
namespace Sp
open Go.RowKit Bs Dv Gr
open Su (Sup SupOk GeoOk putS supE T4)
open Cn (CnOk Qo)
def lp1:Pg:=⟨4,[],[120]⟩
def lp2:Pg:=⟨3,[3],[]⟩
def lp5:Pg:=⟨4,[],[]⟩
section
variable (s0 : SpS)
def lv1:SpS:=putP s0 lp1 3
def lv2:SpS:=putP (lv1 s0) lp2 4
def lv3:SpS:=commitP (lv2 s0) 4
def lv4:SpS:=⟨(lv3 s0).dv,(lv3 s0).sup,(lv3 s0).held,(lv3 s0).held,none,(lv3 s0).slot⟩
def lv5:SpS:=putP (lv4 s0) lp5 2
end
def N1:List Int:=[1,1,1,1,0,0,0,0,0,0,0,0]
def N0:List Int:=[1,1,1,0,0,0,0,0,0,0,0,0]
def N2:List Int:=[1,1,1,1,1,0,0,0,0,0,0,0]
def N3:List Int:=[1,1,0,1,1,1,0,0,0,0,0,0]
def N5:List Int:=[1,1,1,1,1,1,0,0,0,0,0,0]
theorem Qjm:PgOk lp1:=⟨by decide,(fun k hk=>by cases hk),fun x hx=>by rcases List.mem_cons.1 hx with rfl|hx;exact⟨by decide,by decide⟩;cases hx⟩
theorem Qdz:PgOk lp2:=⟨by decide,(fun k hk=>by rcases List.mem_cons.1 hk with rfl|hk;exact⟨by decide,by decide⟩;cases hk),fun x hx=>by cases hx⟩
theorem Qjn:PgOk lp5:=⟨by decide,(fun k hk=>by cases hk),fun x hx=>by cases hx⟩
structure LvF (s0:SpS):Prop where
 k0:SpOk s0 [] [] [] 0
 k1:SpOk (lv1 s0) [3] [] [] 1
 k2:SpOk (lv2 s0) [4] [] [] 2
 k3:SpOk (lv3 s0) [4] [4] [] 3
 k4:SpOk (lv4 s0) [4] [4] [] 3
 k5:SpOk (lv5 s0) [4,2] [4] [] 4
 f0:frees s0=3 :: [4,5,6,7,8,9,10,11]
 f1:frees (lv1 s0)=4 :: [5,6,7,8,9,10,11]
 f4:frees (lv4 s0)=2 :: [6,7,8,9,10,11]
 f5:frees (lv5 s0)=[6,7,8,9,10,11]
 f6:frees { (lv5 s0) with now:=N3 }=[2,6,7,8,9,10,11]
 e0:putErr s0 lp1=0
 e1:putErr (lv1 s0) lp2=0
 e4:putErr (lv4 s0) lp5=0
 g4:getErr (lv4 s0) 4=0∧pageF (lv4 s0).dv.blocks ((lv4 s0).dv.last 4)=some lp2
 d5:GoodC (lv5 s0).dv (lv5 s0).sup.pages N3 [4]∧∀m,N3.getD m 0≤(lv5 s0).now.getD m 0
 root:(lv4 s0).sup.root=4
 gen:(lv5 s0).sup.gen=2
 kept:Kept (lv3 s0).dv (lv3 s0).sup (lv3 s0).held (lv3 s0).slot
 cok:CnOk (lv3 s0).dv.size (lv3 s0).dv.blocks (lv3 s0).held
theorem lvf{s0:SpS}(k0:SpOk s0 [] [] [] 0)(c0:Cfg s0 N0 N0 none [2] 1):LvF s0:=by
 have f0:frees s0=3 :: [4,5,6,7,8,9,10,11]:=by rw[c0.frees];decide +kernel
 have k1:SpOk (lv1 s0) [3] [] [] 1:=SpOk.put (a:=[]) (p:=lp1) k0 (by decide) Qjm (by decide) (by rw[c0.size];decide) f0 (by rw[c0.pages];decide);have c1:Cfg (lv1 s0) N1 N0 none [2] 1:=c0.put k0 (by decide) (by decide);have f1:frees (lv1 s0)=4 :: [5,6,7,8,9,10,11]:=by rw[c1.frees];decide +kernel
 have k2:SpOk (lv2 s0) [4] [] [] 2:=SpOk.put (a:=[]) (p:=lp2) k1 (by decide) Qdz (by decide) (by rw[c1.size];decide) f1 (by rw[c1.pages];decide);have c2:Cfg (lv2 s0) N2 N0 none [2] 1:=c1.put k1 (by decide) (by decide);have k3:SpOk (lv3 s0) [4] [4] [] 3:=k2.commit (root:=4) (by decide) (.inr ⟨by decide,List.mem_cons_self ..⟩);have c3:Cfg (lv3 s0) N3 N3 none [5] 2:=c2.commit k2 (by decide) (.inr ⟨by decide,List.mem_cons_self ..⟩) (by decide +kernel) (by decide +kernel);have k4:SpOk (lv4 s0) [4] [4] [] 3:=k3.abort;have c4:Cfg (lv4 s0) N3 N3 none [5] 2:=⟨c3.size,c3.blocks,c3.held,c3.held,rfl,c3.pages,c3.gen⟩;have f4:frees (lv4 s0)=2 :: [6,7,8,9,10,11]:=by rw[c4.frees];decide +kernel
 have k5:SpOk (lv5 s0) [4,2] [4] [] 4:=SpOk.put (a:=[4]) (p:=lp5) k4 (by decide) Qjn (by decide) (by rw[c4.size];decide) f4 (by rw[c4.pages];decide);have c5:Cfg (lv5 s0) N5 N3 none [5] 2:=c4.put k4 (by decide) (by decide);have e0:putErr s0 lp1=0:=by
  rw[k0.Qe5 (by decide) (fun k hk=>by cases hk) (by decide) (by rw[c0.size];decide),f0,c0.pages]
  decide
 have e1:putErr (lv1 s0) lp2=0:=by
  rw[k1.Qe5 (by decide) (fun k hk=>by rcases List.mem_cons.1 hk with rfl|hk;exact List.mem_cons_self ..;cases hk) (by decide) (by rw[c1.size];decide),f1,c1.pages]
  decide
 have e4:putErr (lv4 s0) lp5=0:=by
  rw[k4.Qe5 (by decide) (fun k hk=>by cases hk) (by decide) (by rw[c4.size];decide),f4,c4.pages]
  decide
 have hpg:pageF (lv4 s0).dv.blocks ((lv4 s0).dv.last 4)=some lp2:=by
  obtain⟨-,-,l3,l4⟩:=k2.Qan (root:=4) (by decide) (.inr ⟨by decide,List.mem_cons_self ..⟩);have h1:(lv3 s0).dv.last 4=(lv2 s0).dv.last 4:=l3 4 (by rw[c2.blocks];decide) (by have:=k2.slots;omega) (by
   unfold newPages;rw[c2.frees,c2.pages]
   decide +kernel)
  have h2:=k1.QkM (p:=lp2) (n:=4) (by decide) (by rw[c1.blocks];decide) (by rw[c1.size];decide) Qdz (by decide) (fun k hk=>by rw[c1.blocks];rcases List.mem_cons.1 hk with rfl|hk;exact⟨by decide,by decide⟩;cases hk)
  show pageF (lv3 s0).dv.blocks ((lv3 s0).dv.last 4)=_
  rw[h1,c3.blocks,←c1.blocks];exact h2
 refine⟨k0,k1,k2,k3,k4,k5,f0,f1,f4,by rw[c5.frees];decide +kernel,?_,e0,e1,e4,⟨?_,hpg⟩,⟨?_,fun m=>?_⟩,rfl,c5.gen,k3.kept,k3.held.cok⟩
 ·rw[Qfn]
  show frL (lv5 s0).dv.blocks N3 (lv5 s0).held (lv5 s0).mark=_
  rw[c5.blocks,c5.held,c5.mark]
  decide +kernel
 ·unfold getErr;rw[k4.use (List.mem_cons_self ..),if_neg (fun q=>q rfl),if_neg];rw[hpg];intro q;cases q
 ·obtain⟨a,b,c,d⟩:=k4.Qdf (p:=lp5) (n:=2) (by rw[c4.blocks];decide) (by rw[c4.size];decide);have h1:=k4.now;rw[c4.now]at h1;refine h1.kept a b fun m hm=>?_
  show(putP (lv4 s0) lp5 2).dv.last m=_
  rw[d m,if_neg];rintro rfl;have:=(QaR hm).2.2.1
  revert this
  decide
 ·rw[c5.now];by_cases hm:m<12
  ·revert m
   decide
  ·rw[List.getD_eq_getElem?_getD,List.getD_eq_getElem?_getD,List.getElem?_eq_none (show N3.length≤m by show 12≤m;omega),List.getElem?_eq_none (show N5.length≤m by show 12≤m;omega)];exact Int.le_refl _
theorem lvf0:LvF (firstP 128 12):=lvf (Qf2 QbG QcI) Qi3
theorem Qil(w0 w:World)(hw:w0.grownBy w none)(hT4:T4 w0):Calls Tryz.prog 11 #[.agg #[.int .i64 128,.int .i64 12]] w (MadeX w0 w 128 12):=Qgo w0 w 128 12 hw QbG QcI hT4
end Sp
namespace Sp
open Go.RowKit Bs Dv Gr
theorem Qe1{a b:ByteArray}(h:a≠b):¬a.toList=b.toList:=by
 rw[Go.ByteArray.toList_eq,Go.ByteArray.toList_eq];intro e;apply h
 obtain⟨⟨a⟩⟩:=a;obtain⟨⟨b⟩⟩:=b;have:a=b:=e;rw[this]
def pagesB(p q:Pg):Bool:=decide (p.tag=q.tag) && decide (p.data=q.data) && decide (p.kids=q.kids)
theorem Qju(p:Pg):pagesB p p=true:=by
 unfold pagesB;rw[decide_eq_true rfl,decide_eq_true rfl,decide_eq_true rfl]
 rfl
theorem QaA(p q:Pg)(a b:Option Addr)(c d:Nat)(w:World)(hp:Ws.Seg w a p.kids.length c p.kids)(hq:Ws.Seg w b q.kids.length d q.kids)(hpb:IsB p.data)(hqb:IsB q.data) :
  Calls Tryz.prog 43 #[.agg (pgV p a p.kids.length c),.agg (pgV q b q.kids.length d)] w fun e w'=>e=.returned (.bool (pagesB p q))∧w.grownBy w' none:=by
 have h0:=heap_alloc_new w (.cells (pgV p a p.kids.length c) 40);have g0:=Qb w (.cells (pgV p a p.kids.length c) 40);obtain⟨W0,hW0⟩:∃X,w.alloc (.cells (pgV p a p.kids.length c) 40)=X:=⟨_,rfl⟩;have hsz:W0.heap.size=w.heap.size+1:=by rw[←hW0];simp
 rw[hW0]at h0 g0;have h1:=heap_alloc_new W0 (.cells (pgV q b q.kids.length d) 40);have g1:=Qb W0 (.cells (pgV q b q.kids.length d) 40);obtain⟨W1,hW1⟩:∃X,W0.alloc (.cells (pgV q b q.kids.length d) 40)=X:=⟨_,rfl⟩;rw[hW1]at h1 g1;rw[hsz]at h1;have h2:=Ql h0 g1;have HW0:=hid hW0;have HW1:=hid hW1;have HG:=hid (Qa g0 g1);have a0:W1.cell? ⟨w.heap.size,0,none⟩=some (.int .u8 p.tag):=by rw[cell_of_row _ _ _ _ _ _ h2];rfl
 have a1:W1.cell? ⟨w.heap.size,1,none⟩=some (.slice a p.kids.length c):=by rw[cell_of_row _ _ _ _ _ _ h2];rfl
 have a2:W1.cell? ⟨w.heap.size,2,none⟩=some (.string (strOfNums p.data)):=by rw[cell_of_row _ _ _ _ _ _ h2];rfl
 have b0:W1.cell? ⟨w.heap.size+1,0,none⟩=some (.int .u8 q.tag):=by rw[cell_of_row _ _ _ _ _ _ h1];rfl
 have b1:W1.cell? ⟨w.heap.size+1,1,none⟩=some (.slice b q.kids.length d):=by rw[cell_of_row _ _ _ _ _ _ h1];rfl
 have b2:W1.cell? ⟨w.heap.size+1,2,none⟩=some (.string (strOfNums q.data)):=by rw[cell_of_row _ _ _ _ _ _ h1];rfl
 have HS:=hid (fun W (k:W1.grownBy W none)=>Ws.QkW a b p.kids.length q.kids.length c d p.kids q.kids W (hp.grown (Qa HG.out k)) (hq.grown (Qa HG.out k)));have HE:Hid (pagesB p q=(decide (p.tag=q.tag) && decide (p.data=q.data) && decide (p.kids=q.kids))):=hid rfl;have HST:Hid (strOfNums p.data=strOfNums q.data↔p.data=q.data):=hid ⟨fun e=>QcS hpb hqb e,fun e=>by rw[e]⟩;have HL0:=hid hp.len;obtain⟨t1,e1⟩:∃t,p.tag=t:=⟨_,rfl⟩;obtain⟨t2,e2⟩:∃t,q.tag=t:=⟨_,rfl⟩;obtain⟨S1,e3⟩:∃t,strOfNums p.data=t:=⟨_,rfl⟩;obtain⟨S2,e4⟩:∃t,strOfNums q.data=t:=⟨_,rfl⟩;obtain⟨n1,e5⟩:∃t,p.kids.length=t:=⟨_,rfl⟩;obtain⟨n2,e6⟩:∃t,q.kids.length=t:=⟨_,rfl⟩;have hv1:pgV p a p.kids.length c=#[.int .u8 t1,.slice a n1 c,.string S1]:=by unfold pgV;rw[e1,e3,e5]
 have hv2:pgV q b q.kids.length d=#[.int .u8 t2,.slice b n2 d,.string S2]:=by unfold pgV;rw[e2,e4,e6]
 rw[e1]at a0 HE;rw[e5]at a1 HS;rw[e3]at a2;rw[e2]at b0 HE;rw[e6]at b1 HS;rw[e4]at b2;rw[e3,e4]at HST;rw[hv1]at HW0;rw[hv2]at HW1;rw[hv1,hv2];clear hv1 hv2 e1 e2 e3 e4 e5 e6 h0 h1 h2 g0 g1 hW0 hW1 hp hq hpb hqb hsz HL0;by_cases k1:t1=t2
 case neg=>
  have q1:(t1==t2)=false:=beq_eq_false_iff_ne.2 k1;have HF:Hid (pagesB p q=false):=hid (by rw[HE.out,decide_eq_false k1,Bool.false_and,Bool.false_and]);clear k1;go_enter Tryz.func43,Tryz.ntmps43
  go_upto_region 1 with fail
  rw[HW0.out,HW1.out];go_wp2;go_ret
  exact⟨by rw[HF.out];rfl,HG.out⟩
 case pos=>
  subst k1;rw[decide_eq_true rfl,Bool.true_and]at HE;have q1:(t1==t1)=true:=beq_self_eq_true _;by_cases k2:S1=S2
  case neg=>
   have q2:=Qe1 k2;have HF:Hid (pagesB p q=false):=hid (by rw[HE.out,decide_eq_false (fun e=>k2 (HST.out.2 e)),Bool.false_and]);have q3:(S1.toList==S2.toList)=false:=beq_eq_false_iff_ne.2 q2;clear k2;go_enter Tryz.func43,Tryz.ntmps43
   go_upto_region 1 with fail
   rw[HW0.out,HW1.out];go_wp2;go_ret
   exact⟨by rw[HF.out];rfl,HG.out⟩
  case pos=>
   subst k2;rw[decide_eq_true (HST.out.1 rfl),Bool.true_and]at HE;have HF:Hid (pagesB p q=Ws.sameB p.kids q.kids):=hid HE.out;have q3:(S1.toList==S1.toList)=true:=beq_self_eq_true _;obtain⟨B,hB⟩:∃B,Ws.sameB p.kids q.kids=B:=⟨_,rfl⟩;rw[hB]at HS HF;clear hB;go_enter Tryz.func43,Tryz.ntmps43
   go_upto_region 1 with fail
   rw[HW0.out,HW1.out];go_wp2_with fail
   refine(HS.out _ (QC W1)).mono ?_;rintro e w4 ⟨rfl,hm⟩;have hg4:W1.grownBy w4 none:=by obtain⟨m,rfl⟩:=hm;exact(Turn.drewN _ m nowhere).grown
   dsimp only;go_wp2;go_ret
   exact⟨by rw[HF.out];rfl,Qa HG.out hg4⟩
end Sp
namespace Sp
open Go.RowKit Bs Dv Gr
open Su (Sup SupOk GeoOk putS supE T4)
open Cn (CnOk Qo)
theorem QlM(w0 w:World)(hw:w0.grownBy w none)(hT4:T4 w0):Calls Tryz.prog 11 #[.agg #[.int .i64 128,.int .i64 12]] w fun e w'=>∃sg g,e=.returned (.tuple #[.pointer (some ⟨g,0,none⟩),.pointer (some ⟨sg,0,none⟩)])∧Sh w0 w' sg g (fun _=>False) (firstP 128 12)∧w.grownBy w' none:=by
 refine(Qil w0 w hw hT4).mono ?_;rintro e w' ⟨x,e1,hm,hg,-⟩;exact⟨x.sg,x.g,e1,Sh.of hm,hg⟩
theorem Qhk(w:World)(hT4:T4 w) :
  Calls Tryz.prog 10 #[] w fun e w'=>e=.returned (.bool true)∧w.grownBy w' none:=by
 have HT4:=hid hT4;have HSM:=hid (Qht w);have HMD:=hid (fun W (k:w.grownBy W none)=>QlM w W k hT4);have F:=hid lvf0;obtain⟨s0,hs0⟩:∃s0,firstP 128 12=s0:=⟨_,rfl⟩;rw[hs0]at HMD F;clear hT4 hs0;go_enter Tryz.func10,Tryz.ntmps10
 go_upto_region 1 with fail
 go_wp2_with fail
 refine HSM.out.mono ?_;rintro e w1 ⟨rfl,hg1⟩;have HM:=hid (HMD.out w1 hg1);clear hg1 HSM
 try dsimp only
 go_wp2_with fail
 refine HM.out.mono ?_;rintro e w2 ⟨sg,g,rfl,hm,-⟩;have HS2:=hid hm;have HF:Hid (Calls Tryz.prog 20 #[.pointer (some ⟨sg,0,none⟩)] w2 fun e w'=>e=.returned (.int .i64 9)∧w2=w'):=hid (Qfa hm (n:=9) (by rw[F.out.f0];rfl));have HP:Hid (Calls Tryz.prog 16 #[.pointer (some ⟨sg,0,none⟩),.agg #[.int .u8 4,.slice none 0 0,.string ⟨#[120]⟩]] w2 (ShX w w2 sg g (fun _=>False) (.tuple #[.int .u32 3,.int .i64 0]) (lv1 s0))):=hid (QgU hm F.out.k0 (by decide) lp1 none 0 Qjm (QcP w2) (by decide) F.out.e0 F.out.f0);clear hm HM HMD
 try dsimp only
 go_wp2_with fail
 refine HF.out.mono ?_;rintro e w3 ⟨rfl,rfl⟩
 try dsimp only
 go_wp2_with fail
 refine HP.out.mono ?_;rintro e w3 ⟨rfl,hm,-⟩;have hg3:=Qb w3 (.cells #[.int .u32 3] 35);have hseg:=lit32 w3 3;obtain⟨W3,hW3⟩:∃X,w3.alloc (.cells #[.int .u32 3] 35)=X:=⟨_,rfl⟩;have hseg:Ws.Seg (w3.alloc (.cells #[.int .u32 3] 35)) (some ⟨w3.heap.size,0,none⟩) 1 1 [3]:=hseg;rw[hW3]at hg3 hseg;have HW3:=hid hW3;have hm3:=hm.go hg3;have HP2:Hid (Calls Tryz.prog 16 #[.pointer (some ⟨sg,0,none⟩),.agg #[.int .u8 3,.slice (some ⟨w3.heap.size,0,none⟩) 1 1,.string ⟨#[]⟩]] W3 (ShX w W3 sg g (fun _=>False) (.tuple #[.int .u32 4,.int .i64 0]) (lv2 s0))):=hid (QgU hm3 F.out.k1 (by decide) lp2 (some ⟨w3.heap.size,0,none⟩) 1 Qdz hseg (by decide) F.out.e1 F.out.f1);clear hm HF HP HS2 hg3 hseg hW3 hm3
 try dsimp only
 go_wp2_with fail
 rw[HW3.out];refine HP2.out.mono ?_;rintro e w4 ⟨rfl,hm,-⟩;have HC:Hid (Calls Tryz.prog 27 #[.pointer (some ⟨sg,0,none⟩),.int .u32 4] w4 (ShX w w4 sg g (fun _=>False) (.int .i64 0) (lv3 s0))):=hid (QjJ hm F.out.k2 (by decide) 4 (by decide) (.inr (List.mem_cons_self ..)) HT4.out);clear hm HP2 HW3
 try dsimp only
 go_wp2_with fail
 refine HC.out.mono ?_;rintro e w5 ⟨rfl,hm,-⟩;have HO:=hid (QhK hm F.out.kept F.out.cok HT4.out);clear hm HC
 try dsimp only
 go_wp2_with fail
 refine HO.out.mono ?_;rintro e w6 ⟨so,rfl,hm,-⟩;have hm:Sh w w6 so g (fun _=>False) (lv4 s0):=hm;have HS6:=hid hm;have HR:Hid (Calls Tryz.prog 29 #[.pointer (some ⟨so,0,none⟩)] w6 fun e w'=>e=.returned (.int .u32 4)∧w6=w'):=hid (by
  have h1:=QhM hm;rw[F.out.root]at h1;exact h1)
 have HGT:=hid (QgS hm (by have:=F.out.k4.Qay;omega) 4 (by decide));clear hm HO
 try dsimp only
 go_wp2_with (first|(go_at_call 29;refine HR.out.mono ?_;rintro e w7 ⟨rfl,rfl⟩)|fail)
 refine HGT.out.mono ?_;rintro e w7 ⟨hg7,hx⟩;rcases hx with ⟨hE,-⟩|⟨p,a,c,-,hpg,rfl,hsg,hnw⟩
 ·exact absurd F.out.g4.1 hE
 obtain rfl:p=lp2:=Option.some.inj (hpg.symm.trans F.out.g4.2);have hsg:Ws.Seg w7 a 1 c [3]:=hsg;have hv:pgV lp2 a lp2.kids.length c=#[.int .u8 3,.slice a 1 c,.string ⟨#[]⟩]:=rfl;rw[hv];obtain⟨gk,ok,rfl,hk⟩:=hsg.addr (by omega);have hk0:=hk 0 (by omega);have HLT:Hid (w6.heap.size≤gk∧gk<w7.heap.size):=hid ⟨hnw _ rfl,World.block_lt_of_cell? _ _ hk0⟩;have hm7:=HS6.out.go hg7;have HC7:=hid (heap_alloc_new w7 (.cells #[.int .u8 0,.slice none 0 0,.string ⟨#[]⟩] 40));have HG7:=hid (Qb w7 (.cells #[.int .u8 0,.slice none 0 0,.string ⟨#[]⟩] 40));have HG67:=hid hg7;have HSG7:=hid hsg;clear hpg hnw hv hk hk0 hsg hg7 hm7 HR HGT
 try dsimp only
 go_wp2_with (first
  |(with_reducible refine Qw rfl (.tmp 11) (.tmp 75) rfl w7.heap.size rfl (.int .u8 3) (.slice (some ⟨gk,ok,none⟩) 1 c) (.string ⟨#[]⟩) rfl rfl rfl rfl _ _ _ HC7.out ?_;intro w8 hq8 ht8)
  |fail)
 have hg78:=Qi HG7.out ht8 (Nat.le_refl _);have hm8:Sh w w8 so g (fun k=>k=w7.heap.size∨k=gk) (lv4 s0):=HS6.out.more (Qa HG67.out hg78) (fun k hk=>.inr (by
  have h1:=HLT.out;have h2:=hg78.size;have h3:=HG67.out.size;have h4:=block_lt hq8;rcases hk with rfl|rfl <;> omega))
 have HP5:Hid (Calls Tryz.prog 16 #[.pointer (some ⟨so,0,none⟩),.agg #[.int .u8 4,.slice none 0 0,.string ⟨#[]⟩]] w8 (ShX w w8 so g (fun k=>k=w7.heap.size∨k=gk) (.tuple #[.int .u32 2,.int .i64 0]) (lv5 s0))):=hid (QgU hm8 F.out.k4 (by decide) lp5 none 0 Qjn (QcP w8) (by decide) F.out.e4 F.out.f4);have HQ8:=hid hq8;have HSG8:=hid (HSG7.out.grown hg78);clear hq8 ht8 hg78 hm8 HSG7 HC7 HG7 HG67 HS6 HLT
 try dsimp only
 go_wp2_with fail
 refine HP5.out.mono ?_;rintro e w9 ⟨rfl,hm,hst⟩;have HQ9:=hid ((hst.block (.inl rfl) (block_lt HQ8.out)).trans HQ8.out);have HSG9:=hid (hst.seg HSG8.out (fun ad had=>by cases had;exact .inr rfl));have HF:Hid (Calls Tryz.prog 20 #[.pointer (some ⟨so,0,none⟩)] w9 fun e w'=>e=.returned (.int .i64 6)∧w9=w'):=hid (Qfa hm (n:=6) (by rw[F.out.f5];rfl));have HD:Hid (Calls Tryz.prog 19 #[.pointer (some ⟨so,0,none⟩),.int .u32 2] w9 (ShX w w9 so g (fun k=>k=w7.heap.size∨k=gk) (.int .i64 0) { lv5 s0 with now:=N3 })):=hid (Ql3 hm F.out.k5 2 [4] (fun m=>by
   rw[List.count_cons,List.count_cons,List.count_nil,List.count_cons,List.count_cons,List.count_nil];omega) F.out.d5.1 F.out.d5.2)
 clear hm hst HQ8 HSG8 HP5
 try dsimp only
 go_wp2_with (first|(go_at_call 20;refine HF.out.mono ?_;rintro e w10 ⟨rfl,rfl⟩)|fail)
 refine HD.out.mono ?_;rintro e w10 ⟨rfl,hm,hst⟩;have HQ10:=hid ((hst.block (.inl rfl) (block_lt HQ9.out)).trans HQ9.out);have HSG10:=hid (hst.seg HSG9.out (fun ad had=>by cases had;exact .inr rfl));have hg10:=Qb w10 (.cells #[.int .u32 3] 35);have hseg:Ws.Seg (w10.alloc (.cells #[.int .u32 3] 35)) (some ⟨w10.heap.size,0,none⟩) 1 1 [3]:=lit32 w10 3;obtain⟨W10,hW10⟩:∃X,w10.alloc (.cells #[.int .u32 3] 35)=X:=⟨_,rfl⟩;rw[hW10]at hg10 hseg;have HW10:=hid hW10;have HM10:=hid (hm.go hg10);have HSP:Hid (Calls Tryz.prog 43 #[.agg #[.int .u8 3,.slice (some ⟨gk,ok,none⟩) 1 c,.string ⟨#[]⟩],.agg #[.int .u8 3,.slice (some ⟨w10.heap.size,0,none⟩) 1 1,.string ⟨#[]⟩]] W10 fun e w'=>e=.returned (.bool true)∧W10.grownBy w' none):=hid (by
  have h1:=QaA lp2 lp2 (some ⟨gk,ok,none⟩) (some ⟨w10.heap.size,0,none⟩) c 1 W10 (HSG10.out.grown hg10) hseg Qdz.data Qdz.data;rw[Qju]at h1;exact h1)
 obtain⟨p0,p1,p2⟩:=Qem HQ10.out;have HGE:Hid (∀W,W10.grownBy W none→Calls Tryz.prog 30 #[.pointer (some ⟨so,0,none⟩)] W fun e w'=>e=.returned (.int .u64 2)∧W=w'):=hid (fun W k=>by
  have h1:=QgR (HM10.out.go k);rw[show({ lv5 s0 with now:=N3 }:SpS).sup.gen=2 from F.out.gen]at h1;exact h1)
 have HF2:Hid (∀W,W10.grownBy W none→Calls Tryz.prog 20 #[.pointer (some ⟨so,0,none⟩)] W fun e w'=>e=.returned (.int .i64 7)∧W=w'):=hid (fun W k=>Qfa (HM10.out.go k) (n:=7) (by rw[F.out.f6];rfl));clear hm hst hg10 hseg hW10 HQ9 HSG9 HD HF HQ10 HSG10
 try dsimp only
 go_wp2_with fail
 rw[HW10.out];refine HSP.out.mono ?_;rintro e w11 ⟨rfl,hg11⟩;have HGE2:=hid (HGE.out w11 hg11);have HF3:=hid (HF2.out w11 hg11);have HX:Hid (w.grownBy w11 none):=hid (HM10.out.go hg11).gr;clear hg11 HSP HGE HF2 p0 p1 p2;go_wp2_with (first
  |(go_at_call 30;refine HGE2.out.mono ?_;rintro e w12 ⟨rfl,rfl⟩)
  |(go_at_call 20;refine HF3.out.mono ?_;rintro e w12 ⟨rfl,rfl⟩)
  |fail)
 go_ret
 exact⟨rfl,HX.out⟩
end Sp
end Go.Proofs.YtbbbocoliandcaaGreatDoor
