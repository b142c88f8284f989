import Derived.Test.YtjikkhbcbfpocaaGreatDoorSMix
set_option maxRecDepth 100000
set_option maxHeartbeats 1000000
namespace Go.Proofs.YtjikkhbcbfpocaaGreatDoor.Su
open Go.RowKit
theorem and15 (y:Nat) (hy:y<4294967296):bits .and .u32 (y:Int) 15=((y%16:Nat):Int):=by
 rw [show (15:Int)=((15:Nat):Int) from rfl,u32_and_nat _ _ hy (by decide)]
 congr 1
 exact Nat.and_two_pow_sub_one_eq_mod y 4
theorem mY {w:World} (hT:Half w) (y:Nat) (hy:y<4294967296):
  ∃ (m t z:Nat),m<16∧bits .and .u32 (y:Int) 15=(m:Int)∧w.cell? ⟨0,m,none⟩=some (.int .u32 (t:Int))∧bits .xor .u32 ((y:Int)/16) (t:Int)=(z:Int)∧z=Crc.nib y∧z<4294967296:=by
 have ht:Crc.tab.getD (y%16) 0<4294967296:=by
  have h:∀ i,i<16→Crc.tab.getD i 0<4294967296:=by decide +kernel
  exact h _ (by omega)
 refine ⟨y%16,Crc.tab.getD (y%16) 0,Crc.nib y,by omega,and15 y hy,hT.half _ (by omega),?_,rfl,Nat.xor_lt_two_pow (n:=32) (by omega) ht⟩
 rw [show (y:Int)/16=((y/16:Nat):Int) by omega,u32_xor_nat _ _ (by omega) ht]
 rfl
theorem th (l:List Nat) (x k:Nat) (hk:k<l.length):Crc.raw x (l.take (k+1))=Crc.byteStep (Crc.raw x (l.take k)) (l.getD k 0):=by
 rw [List.take_succ_eq_append_getElem hk,Crc.nt]
 simp [Crc.raw,List.getD,gl hk]
theorem ti (a:Addr) (cap:Nat) (l:List Nat) (w:World) (hc:∀ i,i<l.length→w.cell? (a.add i)=some (vb (l.getD i 0))) (hB:Bytes l) (hT:Half w) (hl:l.length<4611686018427387904):
  Calls Tryz.prog 89 #[.slice (some a) l.length cap] w fun e w'=>e=.returned (vw (Crc.crc l))∧w'=w:=by
 have HC:Hid (∀ i,i<l.length→w.cell? (a.add i)=some (vb (l.getD i 0))):=hc
 have HB:Hid (Bytes l):=hB
 clear hc hB
 go_enter Tryz.func89,Tryz.ntmps89
 go_wp2
 go_loopw [3,8] (fun x i wr=>∃ (k y:Nat),k≤l.length∧i=.int .i64 k∧x=.int .u32 y∧Hid (y=Crc.raw Crc.ones (l.take k))∧y<4294967296∧wr=w) (fun _ i _=>l.length-(intOf i).toNat)
 case atStart=>exact ⟨0,4294967295,by omega,rfl,rfl,rfl,by decide,rfl⟩
 case round=>
  obtain ⟨k,x,hk,rfl,rfl,HX,hx,rfl⟩:=hrel
  by_cases hlt:k<l.length
  ·obtain ⟨c,hcv,hcl,hcr⟩:∃ c:Nat,wr.cell? (a.add k)=some (.int .u8 c)∧c<256∧Hid (∀ z,z=Crc.byteStep x c→z=Crc.raw Crc.ones (l.take (k+1))):=by
    refine ⟨l.getD k 0,HC.out k hlt,HB.out _ (by simp [List.getD,gl hlt]),?_⟩
    intro z hz
    rw [hz,HX.out,th _ _ _ hlt]
   obtain ⟨y,hxy,hyl,hyd⟩:∃ y:Nat,bits .xor .u32 (x:Int) (c:Int)=(y:Int)∧y<4294967296∧Hid (y=x ^^^ c):=⟨x ^^^ c,u32_xor_nat _ _ hx (by omega),Nat.xor_lt_two_pow (n:=32) hx (by omega),rfl⟩
   obtain ⟨m1,t1,z1,hm1,ha1,hc1,hx1,hz1,hl1⟩:=mY hT y hyl
   obtain ⟨m2,t2,z2,hm2,ha2,hc2,hx2,hz2,hl2⟩:=mY hT z1 hl1
   have HZ:Hid (z2=Crc.raw Crc.ones (l.take (k+1))):=hcr.out _ (by rw [hz2,hz1,hyd.out];rfl)
   clear hz1 hz2 hT hcr HC HB
   have b1:((m1:Nat):Int)<16:=by omega
   have b2:((m2:Nat):Int)<16:=by omega
   have hkI:(k:Int)<(l.length:Int):=by omega
   go_wp2
   go_roundw
   case rel=>exact ⟨k+1,z2,by omega,by go_num,rfl,HZ,hl2,trivial⟩
   case measure=>simp [intOf];omega
  ·have hkI:¬ (k:Int)<(l.length:Int):=by omega
   have hke:k=l.length:=by omega
   have HR:Hid (bits .xor .u32 (x:Int) 4294967295=((Crc.crc l:Nat):Int)):=by
    show _=_
    rw [show (4294967295:Int)=((4294967295:Nat):Int) from rfl,u32_xor_nat _ _ hx (by decide),HX.out,hke,List.take_length]
    rfl
   clear hke
   go_wp2
   go_ret
   refine ⟨?_,rfl⟩
   show Ending.returned (Value.int .u32 _)=_
   rw [HR.out];rfl
theorem wD (v:Value) (l:List Nat) (w:World) (hv:Has w v l) (hB:Bytes l) (hT:Half w) (hl:l.length<4611686018427387904):
  Calls Tryz.prog 89 #[v] w fun e w'=>e=.returned (vw (Crc.crc l))∧w'=w:=by
 rcases hv with ⟨rfl,rfl⟩ | ⟨a,cap,rfl,hc,h⟩
 ·go_enter Tryz.func89,Tryz.ntmps89
  go_wp2
  go_loopw [3,8] (fun x i wr=>i=.int .i64 0∧x=.int .u32 4294967295∧wr=w) (fun _ _ _=>0)
  case atStart=>exact ⟨rfl,rfl,rfl⟩
  case round=>
   obtain ⟨rfl,rfl,rfl⟩:=hrel
   go_wp2
   go_ret
   exact ⟨rfl,rfl⟩
 ·exact ti a cap l w h hB hT hl
end Go.Proofs.YtjikkhbcbfpocaaGreatDoor.Su
