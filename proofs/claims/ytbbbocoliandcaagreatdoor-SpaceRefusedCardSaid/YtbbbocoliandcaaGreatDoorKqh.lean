/- Parts of the proof. -/
import Derived.Test.YtbbbocoliandcaaGreatDoorKqU
import Derived.Test.YtbbbocoliandcaaGreatDoorKqf
set_option maxRecDepth 100000
set_option maxHeartbeats 8000000
namespace Go.Proofs.YtbbbocoliandcaaGreatDoor
namespace Sp
open Go.ChangeShapes Go.WideShapes Go.ChangeAt Go.RowKit Bs Dv Gr
section
variable {H : Type} {enc : TypeId × Value → H} {w : World} {base : Nat} {spare : Nat → Bool} {held : Bool}
theorem open_page{r:Reach}{b0:Nat}{v:Value}{d:DataW H}{p:List MemPlace}(hv:Value.okWide Tryz.prog w r b0 40 v)(h:DataW.Trod enc Tryz.prog w base spare held 40 v d p) :
  ∃(q:Pg) (a:Option Addr) (c:Nat),v=.agg #[.int .u8 q.tag,.slice a q.kids.length c,.string (strOfNums q.data)]∧Ws.Seg w a q.kids.length c q.kids∧PgOk q:=by
 obtain⟨cs,rfl,hsz⟩:=okWide_struct Tryz.underlying40 hv;have c3:Tryz.prog.cellsOf 40=3:=by kernel_rfl
 rw[c3]at hsz;obtain⟨fuel,hf⟩:=h;have hf:DataW.trod enc Tryz.prog w base spare held fuel 40 cs.toList=some (d,p):=hf;obtain⟨xs,n',_,_,_,hxl,hfs⟩:=DataW.trod_struct Tryz.underlying40 hf;have hcl:cs.toList.length=3:=by simpa using hsz
 have hxl:xs.length=3:=hxl;obtain⟨x0,e0,w0⟩:=Qdf (j:=0) Tryz.underlying5 (by kernel_rfl) rfl (by omega) (by simp[hxl]) (hfs 0 _ rfl);obtain⟨x2,e2,w2⟩:=QiM (j:=2) Tryz.underlying9 (by kernel_rfl) rfl (by omega) (by simp[hxl]) (hfs 2 _ rfl);have h5:=hfs 1 _ rfl;have c1:Tryz.prog.cellsOf 38=1:=by kernel_rfl
 rw[List.getElem?_eq_getElem (by omega)]at h5;have h5:DataW.trod enc Tryz.prog w base spare held n' 38 ((cs.toList.drop 1).take (Tryz.prog.cellsOf 38))=some xs[1]:=h5;rw[Su.Qhd (by omega) c1]at h5;obtain⟨a,n,c,l,e5,hps,hbd⟩:=Su.Qiv h5;have e1:cs.toList[1]?=some (.slice a n c):=by rw[List.getElem?_eq_getElem (by omega),e5]
 have b0:0≤x0∧x0≤255:=by simpa [Lit.wf,IntKind.min,IntKind.max,IntKind.signed,IntKind.bits] using w0
 obtain⟨l2,hl2,rfl⟩:=str_of x2;have hn:l.length=n:=hps.len;subst hn;refine⟨⟨x0,l,l2⟩,a,c,?_,hps,⟨⟨b0.1,by show x0<256;omega⟩,hbd,hl2⟩⟩
 congr 1
 apply Array.ext'
 apply List.ext_getElem?
 intro i
 match i with
 |0=>rw[e0];rfl
 |1=>rw[e1];rfl
 |2=>rw[e2];rfl
 |i+3=>rw[List.getElem?_eq_none (by omega),List.getElem?_eq_none (by simp)]
end
end Sp
end Go.Proofs.YtbbbocoliandcaaGreatDoor
