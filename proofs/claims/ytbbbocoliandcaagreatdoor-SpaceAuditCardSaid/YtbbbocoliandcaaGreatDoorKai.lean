/- Parts of the proof. -/
import Derived.Lib.AppendZeros
import Derived.Test.YtbbbocoliandcaaGreatDoorKah
set_option maxRecDepth 100000
set_option maxHeartbeats 8000000
namespace Go.Proofs.YtbbbocoliandcaaGreatDoor
namespace Sp
open Go.RowKit Bs Dv Gr
open Su (Sup SupOk GeoOk supE T4)
theorem AcSeg.form{w:World}{a:Option Addr}{n c:Nat}{l:List AcT}(h:AcSeg w a n c l)(hn:n≠0):∃B O,a=some ⟨B,O,none⟩∧∀k,k<n→w.cell? ⟨B,O+k*5,none⟩=some (.int .i64 (l.getD k default).kind)∧w.cell? ⟨B,O+k*5+1,none⟩=some (.int .u8 (l.getD k default).tag)∧w.cell? ⟨B,O+k*5+2,none⟩=some (.int .i64 (l.getD k default).kids)∧w.cell? ⟨B,O+k*5+3,none⟩=some (.int .i64 (l.getD k default).n)∧w.cell? ⟨B,O+k*5+4,none⟩=some (.string (strOfNums (l.getD k default).data)):=by
 cases a with
 |none=>have:=(h.nil_ rfl).1;omega
 |some ad=>
  have h0:=Qd5 (h.at_ ad rfl 0 (by omega) 0 _ rfl);obtain⟨B,O,sp⟩:=ad;have:sp=none:=h0;subst this;refine⟨B,O,rfl,fun k hk=>⟨?_,?_,?_,?_,?_⟩⟩
  ·have h4:=h.at_ _ rfl k hk 0 _ rfl;rw[Addr.add_lit]at h4;exact h4
  ·have h4:=h.at_ _ rfl k hk 1 _ rfl;rw[Addr.add_lit]at h4;exact h4
  ·have h4:=h.at_ _ rfl k hk 2 _ rfl;rw[Addr.add_lit]at h4;exact h4
  ·have h4:=h.at_ _ rfl k hk 3 _ rfl;rw[Addr.add_lit]at h4;exact h4
  ·have h4:=h.at_ _ rfl k hk 4 _ rfl;rw[Addr.add_lit]at h4;exact h4
theorem QiT(w0 w:World)(size n:Nat)(hw:w0.grownBy w none)(hg:GeoOk size n)(hE:supE (firstS size n)=0)(hT4:T4 w0) :
  Calls Tryz.prog 35 #[.agg #[.int .i64 (size:Int),.int .i64 (n:Int)]] w fun e w'=>∃rg sg g,e=.returned (.pointer (some ⟨rg,0,none⟩))∧Rs w0 w' rg sg g (fun _=>False) (firstR' size n)∧w.grownBy w' none:=by
 refine(QhI w0 w size n hw hg hE hT4).mono ?_;rintro e w' ⟨v,e1,hr,hgr,-⟩;exact⟨v.rg,v.x.sg,v.x.g,e1,Rs.of hr,hgr⟩
theorem DoR.dims{a:AcT}{r r':Rn}{n e:Int}{T:Nat}(d:DoR a r n e r')(h:RnOk r T)(hT:T≤1000):r'.s.dv.size=r.s.dv.size∧r'.s.dv.blocks=r.s.dv.blocks:=by
 cases d with
 |Qal=>exact⟨rfl,rfl⟩
 |get=>exact⟨rfl,rfl⟩
 |idle=>exact⟨rfl,rfl⟩
 |Qr n l hk he hf hl=>
  have hn:=(h.sp.free (n:=n) (by rw[hf];exact List.mem_cons_self ..)).1;have hpf:(Fr.putF r.s.dv.size ((actPg a r.own).tag,r.s.sup.gen+1,dataP (actPg a r.own))).2=0:=by
   unfold putErr at he;by_cases q:checkE r.s (actPg a r.own)≠0
   ·rw[if_pos q]at he;exact absurd he q
   ·rw[if_neg q]at he;by_cases q2:(Fr.putF r.s.dv.size ((actPg a r.own).tag,r.s.sup.gen+1,dataP (actPg a r.own))).2≠0
    ·rw[if_pos q2]at he;exact absurd he q2
    ·exact Decidable.not_not.1 q2
  have h3:=(Qek hpf).2;obtain⟨a1,a2,-⟩:=h.sp.QcO (p:=actPg a r.own) hn h3;exact⟨a1,a2⟩
 |share=>exact⟨rfl,rfl⟩
 |drop=>exact⟨rfl,rfl⟩
 |commit hk=>
  have hr:((actRoot a r.own:Nat):Int)=0∨(0≤((actRoot a r.own:Nat):Int)∧((actRoot a r.own:Nat):Int).toNat∈r.own):=by
   unfold actRoot;by_cases q:r.own≠[]∧0≤a.n
   ·rw[if_pos q];exact .inr ⟨by omega,by rw[Int.toNat_natCast];exact QaG (a:=a) q.1⟩
   ·rw[if_neg q];exact .inl rfl
  obtain⟨-,-,-,hd⟩:=h.sp.Qao hT hr;refine⟨?_,?_⟩
  ·show(commitP r.s _).dv.size=_
   rw[hd]
  ·show(commitP r.s _).dv.blocks=_
   rw[hd]
 |abort=>exact⟨rfl,rfl⟩
 |mark=>exact⟨rfl,rfl⟩
 |back=>exact⟨rfl,rfl⟩
 |done=>exact⟨rfl,rfl⟩
end Sp
end Go.Proofs.YtbbbocoliandcaaGreatDoor
