/- Parts of the proof. -/
import Derived.Lib.TrailingZeros
import Derived.Test.YtbbbocoliandcaaGreatDoorKrC
set_option maxRecDepth 100000
set_option maxHeartbeats 8000000
open Go.Lib (hid)
namespace Go.Proofs.YtbbbocoliandcaaGreatDoor
namespace Dv
open Go.RowKit Bs
def HasBits(x:Int)(n:Int):Prop:=0≤n∧n≤64∧x<2 ^ n.toNat∧(1≤n→2 ^ (n.toNat-1)≤x)
def bl:Nat→Nat→Nat
 |0,_=>0
 |f+1,k=>if k=0 then 0 else bl f (k / 2)+1
theorem Qhy(f:Nat):∀k:Nat,k<2 ^ f→k<2 ^ bl f k∧(1≤k→1≤bl f k∧2 ^ (bl f k-1)≤k)∧bl f k≤f:=by
 induction f with
 |zero=>intro k hk;simp at hk;subst hk;simp[bl]
 |succ f ih=>
  intro k hk;simp only[bl];by_cases h:k=0
  ·rw[if_pos h];subst h;simp
  ·rw[if_neg h];have:=ih (k / 2) (by rw[Nat.pow_succ]at hk;omega);obtain⟨h1,h2,h3⟩:=this;refine⟨by rw[Nat.pow_succ];omega,fun _=>⟨by omega,?_⟩,by omega⟩;rw[Nat.add_sub_cancel];by_cases h4:k / 2=0
   ·have:bl f (k / 2)=0:=by rw[h4];cases f <;> simp[bl]
    rw[this];simp;omega
   ·obtain⟨h5,h6⟩:=h2 (by omega);rw[show bl f (k / 2)=(bl f (k / 2)-1)+1 from by omega,Nat.pow_succ];omega
def tabB(t:ByteArray):Bool:=t.size==256 && (List.range 256).all fun k=>(t.data.toList.getD k 0).toNat==bl 8 k
theorem Qbx(t:ByteArray)(ht:tabB t=true)(k:Nat)(h:k<t.size):(t[k]'h).toNat=bl 8 k:=by
 simp only[tabB,Bool.and_eq_true,beq_iff_eq,List.all_eq_true,List.mem_range]at ht;have h2:=ht.2 k (by omega);rw[←h2];have h3:k<t.data.toList.length:=by simpa using h
 rw[List.getD_eq_getElem?_getD,List.getElem?_eq_getElem h3]
 rfl
theorem Qlb(S:Int)(s b:Nat)(hS:S=s)(hs':s≤56)(hb:b≤8):wrap64 (S+wrap64 (b:Int))=((s+b:Nat):Int):=by
 have e1:wrap64 (b:Int)=b:=IntWalk.wrap64_in _ (by omega);rw[e1,IntWalk.wrap64_in _ (by omega)];omega
theorem QfR(x i:Int)(s b:Nat)(hi:i=x / 2 ^ s)(hs:s=0∨1≤i)(h0:0≤x)(hs':s≤56)(b1:i.toNat<2 ^ b)(b2:1≤i.toNat→1≤b∧2 ^ (b-1)≤i.toNat)(b3:b≤8)(b0:i.toNat=0→b=0) :
  HasBits x ((s+b:Nat):Int):=by
 have hD:(0:Int)<2 ^ s:=Int.pow_pos (by decide);have hi0:0≤i:=by rw[hi];exact Int.ediv_nonneg h0 (Int.le_of_lt hD)
 have lo:i*2 ^ s≤x:=by rw[hi];exact Int.ediv_mul_le _ (Int.ne_of_gt hD)
 have hi':x<(i+1)*2 ^ s:=by rw[hi];exact Int.lt_ediv_add_one_mul_self _ hD
 clear hi;have b1':i+1≤2 ^ b:=by
  have h:((i.toNat:Nat):Int)+1≤((2 ^ b:Nat):Int):=by exact_mod_cast b1
  rw[Int.natCast_pow]at h;have:((i.toNat:Nat):Int)=i:=Int.toNat_of_nonneg hi0;rw[this]at h;exact h
 refine⟨by omega,by omega,?_,fun h1=>?_⟩
 ·rw[Int.toNat_natCast,Nat.add_comm,Int.pow_add];exact Int.lt_of_lt_of_le hi' (Int.mul_le_mul_of_nonneg_right b1' (Int.le_of_lt hD))
 ·rw[Int.toNat_natCast];by_cases hk:1≤i
  ·obtain⟨b4,b5⟩:=b2 (by omega);have b5':(2:Int) ^ (b-1)≤i:=by
    have h:((2 ^ (b-1):Nat):Int)≤(i.toNat:Int):=by exact_mod_cast b5
    rw[Int.natCast_pow,Int.toNat_of_nonneg hi0]at h;exact h
   rw[show s+b-1=(b-1)+s from by omega,Int.pow_add];exact Int.le_trans (Int.mul_le_mul_of_nonneg_right b5' (Int.le_of_lt hD)) lo
  ·have h2:i.toNat=0:=by omega
   have:=b0 h2;omega
theorem Qbb(t:ByteArray)(ht:tabB t=true)(x S i:Int)(s:Nat)(h:i.toNat<t.size)(hS:S=s)(hi:i=x / 2 ^ s)(hs:s=0∨1≤i)(h0:0≤x)(hs':s≤56)(hi2:i<256) :
  HasBits x (wrap64 (S+wrap64 ((t[i.toNat]'h).toNat:Int))):=by
 rw[Qbx t ht];have hb:=Qhy 8 i.toNat (by omega);have hb0:i.toNat=0→bl 8 i.toNat=0:=fun e=>by rw[e];rfl
 generalize bl 8 i.toNat=b at hb hb0;rw[Qlb S s b hS hs' hb.2.2];exact QfR x i s b hi hs h0 hs' hb.1 hb.2.1 hb.2.2 hb0
theorem QiK(b:Nat)(hb:b≤8):wrap64 (wrap64 (b:Int))=((0+b:Nat):Int):=by
 have e1:wrap64 (b:Int)=b:=IntWalk.wrap64_in _ (by omega);rw[e1,e1];omega
theorem QiQ(t:ByteArray)(ht:tabB t=true)(x:Int)(h:x.toNat<t.size)(h0:0≤x)(hi2:x<256) :
  HasBits x (wrap64 (wrap64 ((t[x.toNat]'h).toNat:Int))):=by
 rw[Qbx t ht];have hb:=Qhy 8 x.toNat (by omega);have hb0:x.toNat=0→bl 8 x.toNat=0:=fun e=>by rw[e];rfl
 generalize bl 8 x.toNat=b at hb hb0;rw[QiK b hb.2.2];exact QfR x x 0 b (by show x=x / 1;omega) (.inl rfl) h0 (by decide) hb.1 hb.2.1 hb.2.2 hb0
theorem Qji(x:Int)(w:World)(h0:0≤x)(h1:x<18446744073709551616) :
  Calls Tryz.prog 181 #[.int .u64 x] w fun e w'=>∃n,e=.returned (.int .i64 n)∧HasBits x n∧w=w':=by
 by_cases a:4294967296≤x
 ·by_cases b:65536≤x / 4294967296
  ·by_cases c:256≤x / 4294967296 / 65536
   ·have E:Hid (x / 4294967296 / 65536 / 256=x / 2 ^ 56):=hid (by show _=x / 72057594037927936;omega);have d1:1≤x / 4294967296 / 65536 / 256:=by omega
    have d2:x / 4294967296 / 65536 / 256<256:=by omega
    go_enter Tryz.func181,Tryz.ntmps181
    go_wp2;go_ret
    exact⟨_,rfl,Qbb _ (by kernel_rfl) x _ _ 56 _ rfl E.out (.inr d1) h0 (by decide) d2,rfl⟩
   ·have E:Hid (x / 4294967296 / 65536=x / 2 ^ 48):=hid (by show _=x / 281474976710656;omega);have d1:1≤x / 4294967296 / 65536:=by omega
    have d2:x / 4294967296 / 65536<256:=by omega
    go_enter Tryz.func181,Tryz.ntmps181
    go_wp2;go_ret
    exact⟨_,rfl,Qbb _ (by kernel_rfl) x _ _ 48 _ rfl E.out (.inr d1) h0 (by decide) d2,rfl⟩
  ·by_cases c:256≤x / 4294967296
   ·have E:Hid (x / 4294967296 / 256=x / 2 ^ 40):=hid (by show _=x / 1099511627776;omega);have d1:1≤x / 4294967296 / 256:=by omega
    have d2:x / 4294967296 / 256<256:=by omega
    go_enter Tryz.func181,Tryz.ntmps181
    go_wp2;go_ret
    exact⟨_,rfl,Qbb _ (by kernel_rfl) x _ _ 40 _ rfl E.out (.inr d1) h0 (by decide) d2,rfl⟩
   ·have E:Hid (x / 4294967296=x / 2 ^ 32):=hid (by show _=x / 4294967296;omega);have d1:1≤x / 4294967296:=by omega
    have d2:x / 4294967296<256:=by omega
    go_enter Tryz.func181,Tryz.ntmps181
    go_wp2;go_ret
    exact⟨_,rfl,Qbb _ (by kernel_rfl) x _ _ 32 _ rfl E.out (.inr d1) h0 (by decide) d2,rfl⟩
 ·by_cases b:65536≤x
  ·by_cases c:256≤x / 65536
   ·have E:Hid (x / 65536 / 256=x / 2 ^ 24):=hid (by show _=x / 16777216;omega);have d1:1≤x / 65536 / 256:=by omega
    have d2:x / 65536 / 256<256:=by omega
    go_enter Tryz.func181,Tryz.ntmps181
    go_wp2;go_ret
    exact⟨_,rfl,Qbb _ (by kernel_rfl) x _ _ 24 _ rfl E.out (.inr d1) h0 (by decide) d2,rfl⟩
   ·have E:Hid (x / 65536=x / 2 ^ 16):=hid (by show _=x / 65536;omega);have d1:1≤x / 65536:=by omega
    have d2:x / 65536<256:=by omega
    go_enter Tryz.func181,Tryz.ntmps181
    go_wp2;go_ret
    exact⟨_,rfl,Qbb _ (by kernel_rfl) x _ _ 16 _ rfl E.out (.inr d1) h0 (by decide) d2,rfl⟩
  ·by_cases c:256≤x
   ·have E:Hid (x / 256=x / 2 ^ 8):=hid (by show _=x / 256;omega);have d1:1≤x / 256:=by omega
    have d2:x / 256<256:=by omega
    go_enter Tryz.func181,Tryz.ntmps181
    go_wp2;go_ret
    exact⟨_,rfl,Qbb _ (by kernel_rfl) x _ _ 8 _ rfl E.out (.inr d1) h0 (by decide) d2,rfl⟩
   ·have d2:x<256:=by omega
    go_enter Tryz.func181,Tryz.ntmps181
    go_wp2;go_ret
    exact⟨_,rfl,QiQ _ (by kernel_rfl) x _ h0 d2,rfl⟩
theorem Qbr{x n:Int}(h:HasBits x n)(m:Nat):(m:Int)<n↔2 ^ m≤x:=by
 obtain⟨a,b,c,d⟩:=h
 constructor
 ·intro hm;have h1:=d (by omega);have h2:(2:Int) ^ m≤2 ^ (n.toNat-1):=by
   have:=Nat.pow_le_pow_right (by decide:0<2) (by omega:m≤n.toNat-1);have h3:((2 ^ m:Nat):Int)≤((2 ^ (n.toNat-1):Nat):Int):=by omega
   rwa [Int.natCast_pow,Int.natCast_pow]at h3
  omega
 ·intro hm;apply Int.lt_of_not_ge
  intro hn;have h2:(2:Int) ^ n.toNat≤2 ^ m:=by
   have:=Nat.pow_le_pow_right (by decide:0<2) (by omega:n.toNat≤m);have h3:((2 ^ n.toNat:Nat):Int)≤((2 ^ m:Nat):Int):=by omega
   rwa [Int.natCast_pow,Int.natCast_pow]at h3
  omega
def Lowest(x t:Nat):Prop:=x.testBit t=true∧∀j,j<t→x.testBit j=false
theorem Qeb(t m j:Nat):(2 ^ t*m).testBit j=(decide (t≤j) && m.testBit (j-t)):=by
 rw[Nat.mul_comm,Nat.testBit_mul_two_pow]
theorem Qjl(n x:Nat)(h0:x≠0)(h:x<2 ^ n):Lowest x (Lib.ctz n x)∧Lib.ctz n x<n:=by
 obtain⟨m,hm,hk⟩:=Lib.ctzFrom_spec n x (by omega) h;have e:Lib.ctz n x=Lib.ctzFrom n x:=by simp[Lib.ctz,h0]
 rw[e];refine⟨⟨?_,fun j hj=>?_⟩,hk⟩
 ·rw[hm,Qeb];simp[←hm,Nat.testBit_zero]
 ·rw[hm,Qeb,decide_eq_false (by omega)]
  rfl
theorem QiV(x t:Nat)(h:Lowest x t)(j:Nat):(x &&& (x-1)).testBit j=(decide (t<j) && x.testBit j):=by
 have h0:x≠0:=fun e=>by rw[e]at h;simp[Lowest]at h
 obtain⟨m,hm⟩:∃m,x=2 ^ t*(2*m+1):=by
  obtain⟨h1,h2⟩:=h;have e:x % 2 ^ t=0:=by
   apply Nat.eq_of_testBit_eq
   intro i;rw[Nat.testBit_mod_two_pow,Nat.zero_testBit];by_cases hi:i<t
   ·rw[h2 i hi];simp
   ·simp[hi]
  have e2:(x / 2 ^ t) % 2=1:=by
   rw[Nat.testBit_eq_decide_div_mod_eq]at h1
   simpa using h1
  refine⟨x / 2 ^ t / 2,?_⟩;have e3:2*(x / 2 ^ t / 2)+1=x / 2 ^ t:=by omega
  rw[e3];have:=Nat.div_add_mod x (2 ^ t);omega
 have hp:0<2 ^ t:=Nat.pow_pos (by decide);have e:x-1=2 ^ t*(2*m)+(2 ^ t-1):=by
  rw[hm,Nat.mul_add];omega
 rw[Nat.testBit_and,e,hm,Qeb,Nat.testBit_two_pow_mul_add _ (by omega)];by_cases hj:j<t
 ·simp[hj,show ¬t≤j by omega,show ¬t<j by omega]
 ·rw[if_neg hj];by_cases hj2:j=t
  ·subst hj2;simp[Nat.testBit_zero]
  ·have e1:j-t=(j-t-1)+1:=by omega
   rw[e1,Nat.testBit_succ,Nat.testBit_succ];have d1:(2*m+1) / 2=m:=by omega
   have d2:2*m / 2=m:=by omega
   simp[d1,d2,show t≤j by omega,show t<j by omega]
def T64(w:World):Prop:=∀j,j<64→w.cell? ⟨0,j,none⟩=some (.int .u8 (Lib.deBruijn64tab.getD j 0))
theorem key64(x a:Nat)(hx:x<18446744073709551616)(hx0:x≠0)(hlow:x &&& (18446744073709551616-x)=a) :
  IntKind.u64.wrap (bits BinOp.and IntKind.u64 (x:Int) (IntKind.u64.wrap (-(x:Int)))*285870213051353865) / 288230376151711744=((a*285870213051353865 % 18446744073709551616 / 288230376151711744:Nat):Int):=by
 have e1:IntKind.u64.wrap (-(x:Int))=((18446744073709551616-x:Nat):Int):=by rw[IntKind.wrap_u64];omega
 rw[e1,bits_and_u64_nat x _ hx (by omega),hlow,IntKind.wrap_u64];omega
theorem tz64_core(x k idx:Nat)(w:World)(hx0:((x:Int)==0)=false)
  (key:IntKind.u64.wrap (bits BinOp.and IntKind.u64 (x:Int) (IntKind.u64.wrap (-(x:Int)))*285870213051353865) / 288230376151711744=(idx:Int))
  (hi:idx<64) (hk:k<64) (hcell:w.cell? ⟨0,idx,none⟩=some (.int .u8 k)) :
  Calls Tryz.prog 182 #[.int .u64 x] w fun e w'=>e=.returned (.int .i64 k)∧w=w':=by
 go_enter Tryz.func182,Tryz.ntmps182
 go_wp2_with (simp only[key])
 go_ret
 exact⟨rfl,rfl⟩
theorem Qk8(x:Nat)(w:World)(hx:x<18446744073709551616)(hx0:x≠0)(hT:T64 w) :
  Calls Tryz.prog 182 #[.int .u64 x] w fun e w'=>e=.returned (.int .i64 (Lib.ctz 64 x))∧w=w':=by
 obtain⟨hlow,hk⟩:=Lib.lowest_bit 64 x hx0 hx;obtain⟨hi,htab⟩:=Lib.deBruijn64_at _ hk;have hcell:=hT _ hi;rw[htab]at hcell;exact tz64_core x _ _ w (by simp;omega) (key64 x _ hx hx0 hlow) hi hk hcell
end Dv
end Go.Proofs.YtbbbocoliandcaaGreatDoor
