/- Parts of the proof. -/

set_option maxRecDepth 100000
set_option maxHeartbeats 8000000
namespace Go.Proofs.YtgffbbdcbkikhaaGreatDoor
namespace Crc
def poly:Nat:=0x82f63b78
def halve(v:Nat):Nat:=if v % 2=1 then v / 2 ^^^ poly else v / 2
def halves:Nat→Nat→Nat
 |0,v=>v
 |n+1,v=>halves n (halve v)
def entry(i:Nat):Nat:=halves 8 i
def step(t:Nat→Nat)(s x:Nat):Nat:=s / 256 ^^^ t (s % 256 ^^^ x)
def upd(t:Nat→Nat)(s:Nat)(l:List Int):Nat:=l.foldl (fun s x=>step t s x.toNat) s
def ones:Nat:=4294967295
def sum(t:Nat→Nat)(l:List Int):Nat:=ones ^^^ upd t ones l
def crc(l:List Int):Nat:=sum entry l
def IsB(l:List Int):Prop:=∀x∈l,0≤x∧x<256
def num:List Int→Nat
 | []=>0
 |c :: r=>c.toNat+256*num r
theorem Qh4(m n:Nat):∀v,halves (m+n) v=halves n (halves m v):=by
 induction m with
 |zero=>intro v;simp[halves]
 |succ m ih=>intro v;rw[Nat.add_right_comm];simp only[halves,ih]
theorem Qke(v:Nat)(h:v<4294967296):halve v<4294967296:=by
 unfold halve
 split
 ·exact Nat.xor_lt_two_pow (n:=32) (by omega) (by decide)
 ·omega
theorem Qfb(n:Nat):∀v,v<4294967296→halves n v<4294967296:=by
 induction n with
 |zero=>intro v h;exact h
 |succ n ih=>intro v h;exact ih _ (Qke v h)
theorem Qiq(t:Nat→Nat)(s:Nat)(a b:List Int):upd t s (a++b)=upd t (upd t s a) b:=by unfold upd;rw[List.foldl_append]
theorem QlY(t:Nat→Nat)(ht:∀i,i<256→t i<4294967296)(s x:Nat)(hs:s<4294967296)(hx:x<256):step t s x<4294967296:=by
 unfold step;exact Nat.xor_lt_two_pow (n:=32) (by omega) (ht _ (Nat.xor_lt_two_pow (n:=8) (by omega) hx))
theorem QgN(t:Nat→Nat)(ht:∀i,i<256→t i<4294967296)(l:List Int):∀s,IsB l→s<4294967296→upd t s l<4294967296:=by
 induction l with
 |nil=>intro s _ h;exact h
 |cons c r ih=>
  intro s hb h;have hc:=hb c (by simp);exact ih _ (fun x hx=>hb x (by simp[hx])) (QlY t ht s c.toNat h (by omega))
theorem QfS(i:Nat)(h:i<256):entry i<4294967296:=Qfb 8 i (by omega)
theorem sum_lt(t:Nat→Nat)(ht:∀i,i<256→t i<4294967296)(l:List Int)(hb:IsB l):sum t l<4294967296:=Nat.xor_lt_two_pow (n:=32) (by decide) (QgN t ht l _ hb (by decide))
theorem Qb0(l:List Int)(hb:IsB l):crc l<4294967296:=sum_lt entry QfS l hb
end Crc
namespace Oct
def putB:Nat→Int→List Int
 |0,_=>[]
 |n+1,v=>(v % 256) :: putB n (v / 256)
def ofB:List Int→Int
 | []=>0
 |c :: r=>c+256*ofB r
def IsB(l:List Int):Prop:=∀x∈l,0≤x∧x<256
theorem Qe(n:Nat):∀v,(putB n v).length=n:=by
 induction n with
 |zero=>intro v;rfl
 |succ n ih=>intro v;simp[putB,ih]
theorem Qx(n:Nat):∀v,IsB (putB n v):=by
 induction n with
 |zero=>intro v x hx;simp[putB]at hx
 |succ n ih=>
  intro v x hx;simp only[putB,List.mem_cons]at hx;rcases hx with rfl|hx
  ·omega
  ·exact ih _ x hx
theorem Qz(n:Nat):∀v:Int,0≤v→v<256 ^ n→ofB (putB n v)=v:=by
 induction n with
 |zero=>intro v h0 h1;simp at h1;simp[putB,ofB];omega
 |succ n ih=>
  intro v h0 h1;have h2:v / 256<256 ^ n:=by
   rw[Int.pow_succ]at h1;exact Int.ediv_lt_of_lt_mul (by decide) h1
  simp only[putB,ofB];rw[ih (v / 256) (by omega) h2];omega
theorem Qv(l:List Int)(h:IsB l):0≤ofB l∧ofB l<256 ^ l.length:=by
 induction l with
 |nil=>simp[ofB]
 |cons c r ih=>
  have hc:=h c (by simp);have hr:=ih fun x hx=>h x (by simp[hx])
  simp only[ofB,List.length_cons,Int.pow_succ];omega
theorem Qku(l:List Int)(c:Int):ofB (l++[c])=ofB l+c*256 ^ l.length:=by
 induction l with
 |nil=>simp[ofB]
 |cons a r ih=>
  simp only[List.cons_append,ofB,ih,List.length_cons,Int.pow_succ,Int.mul_add];rw[Int.mul_comm (256:Int) (c*256 ^ r.length),Int.mul_assoc];omega
theorem QeS(n:Nat):∀v:Int,putB (n+1) v=putB n v++[v / 256 ^ n % 256]:=by
 induction n with
 |zero=>intro v;simp[putB]
 |succ n ih=>
  intro v;rw[putB,ih (v / 256)];simp only[putB,List.cons_append]
  congr 2
  rw[Int.ediv_ediv_of_nonneg (by decide),Int.pow_succ,Int.mul_comm (256:Int)]
end Oct
end Go.Proofs.YtgffbbdcbkikhaaGreatDoor
