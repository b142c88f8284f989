import Derived.Test.YtdeanahpiigonaaGreatDoorSEq
import Derived.Test.YtdeanahpiigonaaGreatDoorSLong
import Derived.Lib.SlBytesConst
import Derived.Deep.RegionHeld3
import Derived.Deep.AppendLies
set_option maxRecDepth 100000
set_option maxHeartbeats 4000000
namespace Go.Proofs.YtdeanahpiigonaaGreatDoor.Su
open Go.RowKit
theorem Tryz.info68:(Tryz.prog.info? 68).map (fun i=>(i.zero,i.size,i.bytes))=some (some (.int .u64 0),1,8):=by kernel_rfl
def vq (n:Nat):Value:=.int .u64 (n:Int)
def HasQ (w:World) (v:Value) (l:List Nat):Prop:=
  (v=.slice none 0 0∧l=[])∨∃ g cap,v=.slice (some ⟨g,0,none⟩) l.length cap∧l.length≤cap∧∀ i,i<l.length→w.cell? ⟨g,i,none⟩=some (vq (l.getD i 0))
def qq (w:World) (lo:Nat) (v:Value) (l:List Nat):Prop:=w.ownsRow lo 68 1 v l.length (l.map vq)
theorem HasQ.below {w w':World} {v:Value} {l:List Nat} (h:HasQ w v l) (hb:Below w.heap.size w w'):HasQ w' v l:=by
  rcases h with h | ⟨g,cap,hv,hc,h⟩
  · exact .inl h
  · exact .inr ⟨g,cap,hv,hc,fun i hi=>by rw [hb.cell (block_lt_of_cell (h i hi))];exact h i hi⟩
theorem HasQ.form {w:World} {v:Value} {l:List Nat} (h:HasQ w v l):∃ ao cap,v=.slice ao l.length cap:=by
  rcases h with ⟨rfl,rfl⟩ | ⟨a,cap,rfl,_⟩
  · exact ⟨none,0,rfl⟩
  · exact ⟨_,cap,rfl⟩
theorem HasQ.at {w:World} {v:Value} {l:List Nat} (h:HasQ w v l) (hl:0<l.length):∃ g cap,v=.slice (some ⟨g,0,none⟩) l.length cap∧Hid (∀ i,i<l.length→w.cell? ⟨g,i,none⟩=some (vq (l.getD i 0))):=by
  rcases h with ⟨_,h⟩ | ⟨g,cap,e,_,hc⟩
  · rw [h] at hl;cases hl
  · exact ⟨g,cap,e,hc⟩
theorem qq.has {w:World} {lo:Nat} {v:Value} {l:List Nat} (h:qq w lo v l):HasQ w v l:=by
  have h0:=h
  obtain ⟨_,h | ⟨g,cap,cur,hv,hg,hh,hn,hm,hs,ht⟩⟩:=h
  · obtain ⟨rfl,hl⟩:=h
    exact .inl ⟨rfl,List.length_eq_zero_iff.1 hl⟩
  · subst hv
    refine .inr ⟨g,cap,rfl,hn,fun i hi=>?_⟩
    have:=World.ownsRow.cells h0 (g:=g) rfl i (vq (l.getD i 0)) (by simp [List.getD,gl hi])
    rwa [show (⟨g,0,none⟩:Addr).add i=⟨g,i,none⟩ by unfold Addr.add;split<;>simp_all] at this
theorem qq.nil (w:World) (lo:Nat):qq w lo (.slice none 0 0) []:=World.ownsRow_nil _ _ _ _
theorem qq.block {w w':World} {lo:Nat} {v:Value} {l:List Nat} (h:qq w lo v l) (hb:∀ k,k<w.heap.size→w'.heap[k]?=w.heap[k]?):qq w' lo v l:=by
  have hl:=World.ownsRow.lt h
  obtain ⟨h1,h | ⟨g,cap,cur,hv,hg,hh,hr⟩⟩:=h
  · exact ⟨h1,.inl h⟩
  · subst hv
    exact ⟨h1,.inr ⟨g,cap,cur,rfl,hg,(hb g (hl g rfl).2).trans hh,hr⟩⟩
theorem iQ (x n:Nat) (hx:x<4294967296) (hn:n<32):(bits .or .u64 ((x:Int)/2 ^ n) (IntKind.u64.wrap ((x:Int)*2 ^ (32-n)))).tmod 4294967296=((Sha.rot x n:Nat):Int):=by
  have hp:x*2 ^ (32-n)<18446744073709551616:=by
    have:2 ^ (32-n)≤2 ^ 32:=Nat.pow_le_pow_right (by decide) (by omega)
    calc x*2 ^ (32-n)≤x*2 ^ 32:=Nat.mul_le_mul_left _ this
      _<18446744073709551616:=by omega
  have hd:x/2 ^ n<4294967296:=Nat.lt_of_le_of_lt (Nat.div_le_self _ _) hx
  have e1:IntKind.u64.wrap ((x:Int)*2 ^ (32-n))=((x*2 ^ (32-n):Nat):Int):=by
    rw [show ((x:Int)*2 ^ (32-n))=((x*2 ^ (32-n):Nat):Int) by rw [Int.natCast_mul,Int.natCast_pow];rfl,IntKind.wrap_u64]
    omega
  have e2:((x:Int)/2 ^ n)=((x/2 ^ n:Nat):Int):=by rw [Int.natCast_ediv,Int.natCast_pow];rfl
  rw [e1,e2,u64_or_nat _ _ (by omega) hp,show (4294967296:Int)=((4294967296:Nat):Int) from rfl,← Int.ofNat_tmod]
  congr 1
  unfold Sha.rot
  rw [show (4294967296:Nat)=2 ^ 32 from rfl]
  apply Nat.eq_of_testBit_eq
  intro i
  simp only [Nat.testBit_mod_two_pow,Nat.testBit_or]
  by_cases hi:i<32
  · simp [hi]
  · have:(x/2 ^ n).testBit i=false:=Nat.testBit_lt_two_pow (Nat.lt_of_lt_of_le hd (Nat.pow_le_pow_right (n:=2) (by decide) (by omega:32≤i)))
    simp [hi,this]
theorem kO (x n:Nat) (w:World) (hx:x<4294967296) (h0:0<n) (hn:n<32):
    Calls Tryz.prog 78 #[.int .u64 (x:Int),.int .u64 (n:Int)] w fun e w'=>e=.returned (.int .u64 ((Sha.rot x n:Nat):Int))∧w=w':=by
  rw [← iQ x n hx hn]
  go_enter Tryz.func78,Tryz.ntmps78
  go_wp2
  go_ret
  exact ⟨rfl,rfl⟩
theorem bK {w:World} {ops:Array Oper} {rest:List Oper} {o:Oper} {a:Act} {Q:Exit→Act→World→Prop} (hgd:o.guard=none) (s x:Operand)
    (ho:o.op=.call { callee:=.builtin .append,args:=#[s,x],argTypes:=#[102,102] })
    (lo:Nat) (v:Value) (g y:Nat) (l:List Nat) (hs:a.eval s=v) (hx:a.eval x=.slice (some ⟨g,0,none⟩) 1 1) (hown:qq w lo v l) (hc:w.cell? ⟨g,0,none⟩=some (vq y))
    (hlen:l.length+1≤65536) (hbase:lo≤w.heap.size)
    (h:∀ v' w',qq w' lo v' (l++[y])→Below lo w w'→wpList Tryz.prog ops Q rest (a.put o.dst v') w'):wpList Tryz.prog ops Q (o::rest) a w:=by
  obtain ⟨i0,hi,hz0,hz1,hz2⟩:=info_parts Tryz.info68
  refine wpList_append_own w hgd s x 102 ho lo 68 i0 (.int .u64 0) 1 8 Tryz.underlying102 hi hz0 hz1 hz2 rfl (by decide) v l.length (l.map vq) hs hown ⟨g,0,none⟩ 1 1 [vq y] hx (by simp) ?_ ?_ ?_ ?_ hbase ?_
  · intro j u hj
    have hj0:j=0:=by
      have:=(List.getElem?_eq_some_iff.1 hj).1
      simpa using this
    subst hj0
    rw [show (⟨g,0,none⟩:Addr).add 0=⟨g,0,none⟩ from rfl,hc];exact hj
  · intro u hu;rw [List.mem_singleton.1 hu];rfl
  · unfold maxLen;omega
  · omega
  · intro v' w' h4 h5 _
    refine h v' w' ?_ ((Below.refl lo w).grown h5 hbase fun k hk=>(World.ownsRow.lt hown k hk).1)
    unfold qq
    simpa using h4
def px (b:List Nat) (i:Nat):Nat→Nat
  | 0=>0
  | k+1=>256*px b i k+b.getD (i+k) 0
theorem a2t {b:List Nat} (hB:∀ i,b.getD i 0<256) (i:Nat):∀ k,k≤4→px b i k<256 ^ k
  | 0,_=>by simp [px]
  | 1,_=>by have:=hB (i+0);simp [px] at *;omega
  | 2,_=>by have:=hB (i+0);have:=hB (i+1);simp [px] at *;omega
  | 3,_=>by have:=hB (i+0);have:=hB (i+1);have:=hB (i+2);simp [px] at *;omega
  | 4,_=>by have:=hB (i+0);have:=hB (i+1);have:=hB (i+2);have:=hB (i+3);simp [px] at *;omega
  | k+5,h=>by omega
theorem px4 (b:List Nat) (i:Nat):px b i 4=Sha.word b i:=by
  simp only [px,Sha.word,Nat.add_zero];omega
theorem kq {md:Region.Mode} {ops:Array Oper} {Q:Exit→Act→World→Prop} {fuel:Nat} {listed:Array Bool} {a:Act} {w:World} {i:Nat} {o:Oper} {rs:List Nat} (hoi:ops[i]?=some o)
  (hgd:o.guard=none) (x:Operand) (ho:o.op=.load 68 x) (ad:Addr) (hx:a.eval x=.pointer (some ad)) (v:Value) (hc:w.cell? ad=some v)
  (h:wpAny Tryz.prog md ops Q fuel (listed.setIfInBounds i true) (a.put o.dst v) w)
  (hs:AllReady Tryz.prog md ops Q fuel listed a w rs):AllReady Tryz.prog md ops Q fuel listed a w (i::rs):=by
 refine AllReady.cons hoi (fun K' hK=>?_) hs
 have hw:Region.wanted o (yielded ops a.tmps)=true:=by simp [Region.wanted,hgd]
 rw [if_pos hw]
 have hl:(Instr.loadAt 68 (.pointer (some ad))).run Tryz.prog w=.ok v w:=by simp [Instr.loadAt,hc,go_sem]
 unfold Oper.wp execOp
 simp only [ho,hx,Sem.run_bind,hl,Result.andThen_ok,Sem.run_pure]
 exact hK _ _ h
theorem yz {md:Region.Mode} {ops:Array Oper} {Q:Exit→Act→World→Prop} {fuel:Nat} {listed:Array Bool} {a:Act} {w:World} {i:Nat} {o:Oper} {rs:List Nat} (hoi:ops[i]?=some o)
  (hgd:o.guard=none) (s x:Operand) (ho:o.op=.call { callee:=.builtin .append,args:=#[s,x],argTypes:=#[102,102] })
  (lo:Nat) (v:Value) (g y:Nat) (l:List Nat) (hs:a.eval s=v) (hx:a.eval x=.slice (some ⟨g,0,none⟩) 1 1) (hown:qq w lo v l) (hc:w.cell? ⟨g,0,none⟩=some (vq y)) (hlen:l.length+1≤65536) (hbase:lo≤w.heap.size)
  (h:∀ v' w',qq w' lo v' (l++[y])→Below lo w w'→wpAny Tryz.prog md ops Q fuel (listed.setIfInBounds i true) (a.put o.dst v') w')
  (hr:AllReady Tryz.prog md ops Q fuel listed a w rs):AllReady Tryz.prog md ops Q fuel listed a w (i::rs):=by
 refine AllReady.cons hoi (fun K' hK=>?_) hr
 have hw:Region.wanted o (yielded ops a.tmps)=true:=by simp [Region.wanted,hgd]
 rw [if_pos hw]
 obtain ⟨i0,hi,hz0,hz1,hz2⟩:=info_parts Tryz.info68
 refine wp_append_own w s x 102 ho lo 68 i0 (.int .u64 0) 1 8 Tryz.underlying102 hi hz0 hz1 hz2 rfl (by decide) v l.length (l.map vq) hs hown ⟨g,0,none⟩ 1 1 [vq y] hx rfl ?_ ?_ ?_ ?_ hbase ?_
 ·intro j u hj
  have hj0:j=0:=by
   have:=(List.getElem?_eq_some_iff.1 hj).1
   simpa using this
  subst hj0
  rw [show (⟨g,0,none⟩:Addr).add 0=⟨g,0,none⟩ from rfl,hc];exact hj
 ·intro u hu;rw [List.mem_singleton.1 hu];rfl
 ·unfold maxLen;omega
 ·omega
 ·intro v' w' h1 h2 _
  refine hK _ _ (h v' w' ?_ ((Below.refl lo w).grown h2 hbase fun k hk=>(World.ownsRow.lt hown k hk).1))
  unfold qq
  simpa using h1
theorem bL (v:Value) (b:List Nat) (w:World) (hv:Has w v b) (hB:Bytes b) (hl:b.length=64):
  Calls Tryz.prog 77 #[v] w fun e w'=>∃ u,e=.returned u∧qq w' w.heap.size u (Sha.sched b)∧Below w.heap.size w w':=by
 obtain ⟨a,cap,rfl,HC⟩:∃ a cap,v=.slice (some a) 64 cap∧Hid (∀ i,i<64→w.cell? (a.add i)=some (vb (b.getD i 0))):=by
  rcases hv with ⟨_,h⟩ | ⟨a,cap,e,_,h⟩
  ·rw [h] at hl;cases hl
  ·rw [hl] at e h;exact ⟨a,cap,e,h⟩
 have hG:Hid (∀ i,b.getD i 0<256):=fun i=>by
  by_cases hj:i<b.length
  ·exact hB _ (by simp [List.getD,gl hj])
  ·simp [List.getD,List.getElem?_eq_none (Nat.le_of_not_lt hj)]
 have HBB:Hid (Bytes b):=hB
 clear hv hB hl
 go_enter Tryz.func77,Tryz.ntmps77
 go_wp2_with fail
 go_loopw [3,4] (fun lv i wr=>∃ (k:Nat),k≤16∧i=.int .i64 k∧Hid (qq wr w.heap.size lv (Sha.firstsF (fun i=>Sha.word b (4*i)) k))∧Hid (Below w.heap.size w wr)) (fun _ i _=>16-(intOf i).toNat)
 case atStart=>exact ⟨0,by omega,rfl,qq.nil _ _,Below.refl _ _⟩
 case round=>
  obtain ⟨k,hk,rfl,HO,HW⟩:=hrel
  by_cases hlt:k<16
  ·have hkI:(k:Int)<16:=by omega
   go_wp2_with fail
   go_loopw [5,6] (fun x i wz=>∃ (m X:Nat),m≤4∧i=.int .i64 m∧x=.int .u64 (X:Int)∧Hid (X=px b (4*k) m)∧wz=wr) (fun _ i _=>4-(intOf i).toNat)
   case atStart=>exact ⟨0,0,by omega,rfl,rfl,rfl,rfl⟩
   case round=>
    obtain ⟨m,X,hm,rfl,rfl,HX,rfl⟩:=hrel
    by_cases hm4:m<4
    ·have hmI:(m:Int)<4:=by omega
     obtain ⟨j,hj⟩:∃ j,j=4*k+m:=⟨_,rfl⟩
     obtain ⟨y,hy⟩:∃ y,y=b.getD j 0:=⟨_,rfl⟩
     have hcy:wr.cell? (a.add j)=some (.int .u8 (y:Int)):=by
      have h:=HC.out j (by omega)
      rw [HW.out.cell (block_lt_of_cell h),h,hy];rfl
     have hy2:y<256:=by rw [hy];exact hG.out j
     have hXl:X<16777216:=by
      rw [HX.out]
      have h:=a2t hG.out (4*k) m (by omega)
      have:256 ^ m≤256 ^ 3:=Nat.pow_le_pow_right (by decide) (by omega)
      omega
     have HX2:Hid (256*X+y=px b (4*k) (m+1)):=by show _=_;rw [px,HX.out,hy,hj]
     have hjI:IntKind.i64.wrap (4*(k:Int)+m)=(j:Int):=by rw [IntKind.wrap_i64];omega
     have hj1:(j:Int)<64:=by omega
     have hw1:IntKind.i64.wrap (4*(k:Int))=4*(k:Int):=by rw [IntKind.wrap_i64];omega
     have hjm:4*(k:Int)+m=(j:Int):=by omega
     have hwu:IntKind.u64.wrap (256*(X:Int)+(y:Int))=256*(X:Int)+(y:Int):=by rw [IntKind.wrap_u64];omega
     clear hy hj hm4
     go_wp2_with fail
     go_roundw
     case rel=>exact ⟨m+1,256*X+y,by omega,by go_num,by go_num,HX2.out,by simp⟩
     case measure=>simp [intOf];omega
    ·have hmI:¬ (m:Int)<4:=by omega
     obtain rfl:m=4:=by omega
     have HX2:Hid (X=Sha.word b (4*k)):=by show _=_;rw [HX.out,px4]
     have HOS:Hid (Sha.firstsF (fun i=>Sha.word b (4*i)) k++[X]=Sha.firstsF (fun i=>Sha.word b (4*i)) (k+1)):=by show _=_;rw [HX2.out];rfl
     clear HX HX2
     go_wp2_with (at_builtin;refine bK rfl (.tmp 31) (.tmp 33) rfl w.heap.size _ wr.heap.size X _ rfl rfl (HO.out.block fun q hq=>heap_alloc_old _ _ hq) (by rw [cell_of_row _ _ 0 _ _ _ (heap_alloc_new _ _)];rfl) (by rw [Sha.ql];omega) (by have:=HW.out.size;simp;omega) ?_;intro v' w' hp' hb';have HP2:Hid (qq w' w.heap.size v' (Sha.firstsF (fun i=>Sha.word b (4*i)) (k+1))∧Below w.heap.size w w'):=⟨by rw [← HOS.out];exact hp',HW.out.trans (((Below.refl w.heap.size wr).alloc HW.out.size _).trans hb')⟩;clear hp' hb')
     go_roundw
     case rel=>exact ⟨k+1,by omega,by go_num,HP2.out.1,HP2.out.2⟩
     case measure=>simp [intOf];omega
  ·have hkI:¬ (k:Int)<16:=by omega
   obtain rfl:k=16:=by omega
   go_wp2_with fail
   go_loopw [3,7] (fun lv i wr=>∃ (m:Nat),m≤48∧i=.int .i64 ((16+m:Nat):Int)∧Hid (qq wr w.heap.size lv (Sha.growF Sha.next m (Sha.firstsF (fun i=>Sha.word b (4*i)) 16)))∧Hid (Below w.heap.size w wr)) (fun _ i _=>64-(intOf i).toNat)
   case atStart=>exact ⟨0,by omega,rfl,HO.out,HW.out⟩
   case round=>
    clear HO HW
    obtain ⟨m,hm,rfl,HO,HW⟩:=hrel
    by_cases hlt:m<48
    ·obtain ⟨W,hW⟩:∃ W,W=Sha.growF Sha.next m (Sha.firstsF (fun i=>Sha.word b (4*i)) 16):=⟨_,rfl⟩
     have hWl:W.length=16+m:=by rw [hW,Sha.yN,Sha.ql]
     have HWb:Hid (∀ i,W.getD i 0<4294967296):=fun i=>by
      by_cases hj:i<W.length
      ·exact (by rw [hW];exact d7 fL m _ (xZ (fun _=>fK HBB.out _) 16):∀ x∈W,x<4294967296) _ (by simp [List.getD,gl hj])
      ·simp [List.getD,List.getElem?_eq_none (Nat.le_of_not_lt hj)]
     have HWN:Hid (Sha.growF Sha.next (m+1) (Sha.firstsF (fun i=>Sha.word b (4*i)) 16)=W++[Sha.next W]):=by show _=_;rw [Sha.xw,← hW]
     rw [← hW] at HO
     clear hW
     obtain ⟨g,cp,rfl,HQ⟩:=HO.out.has.at (by omega)
     obtain ⟨t,ht⟩:∃ t,t=16+m:=⟨_,rfl⟩
     rw [hWl,← ht] at HO HQ
     rw [hWl,← ht]
     obtain ⟨a15,h15⟩:∃ x,x=W.getD (t-15) 0:=⟨_,rfl⟩
     obtain ⟨a2,h2⟩:∃ x,x=W.getD (t-2) 0:=⟨_,rfl⟩
     obtain ⟨a16,h16⟩:∃ x,x=W.getD (t-16) 0:=⟨_,rfl⟩
     obtain ⟨a7,h7⟩:∃ x,x=W.getD (t-7) 0:=⟨_,rfl⟩
     have b15:a15<4294967296:=by rw [h15];exact HWb.out _
     have b2:a2<4294967296:=by rw [h2];exact HWb.out _
     have b16:a16<4294967296:=by rw [h16];exact HWb.out _
     have b7:a7<4294967296:=by rw [h7];exact HWb.out _
     obtain ⟨r1,r2,r3,r4,R1,R2,R3,R4,l1,l2,l3,l4⟩:∃ r1 r2 r3 r4:Nat,Hid (r1=Sha.rot a15 7)∧Hid (r2=Sha.rot a15 18)∧Hid (r3=Sha.rot a2 17)∧Hid (r4=Sha.rot a2 19)∧r1<4294967296∧r2<4294967296∧r3<4294967296∧r4<4294967296:=⟨_,_,_,_,rfl,rfl,rfl,rfl,kr b15,kr b15,kr b2,kr b2⟩
     obtain ⟨s0,s1,S0,S1,e0,e1,z0,z1⟩:∃ s0 s1:Nat,Hid (s0=r1 ^^^ r2 ^^^ a15/8)∧Hid (s1=r3 ^^^ r4 ^^^ a2/1024)∧bits .xor .u64 (bits .xor .u64 (r1:Int) (r2:Int)) ((a15:Int)/8)=(s0:Int)∧bits .xor .u64 (bits .xor .u64 (r3:Int) (r4:Int)) ((a2:Int)/1024)=(s1:Int)∧s0<4294967296∧s1<4294967296:=by
      have q1:=Nat.xor_lt_two_pow (n:=32) l1 l2
      have q2:=Nat.xor_lt_two_pow (n:=32) l3 l4
      refine ⟨_,_,rfl,rfl,?_,?_,Nat.xor_lt_two_pow (n:=32) q1 (by omega),Nat.xor_lt_two_pow (n:=32) q2 (by omega)⟩
      ·rw [u64_xor_nat _ _ (by omega) (by omega),show (a15:Int)/8=((a15/8:Nat):Int) by omega,u64_xor_nat _ _ (by omega) (by omega)]
      ·rw [u64_xor_nat _ _ (by omega) (by omega),show (a2:Int)/1024=((a2/1024:Nat):Int) by omega,u64_xor_nat _ _ (by omega) (by omega)]
     obtain ⟨y,hy,HY⟩:∃ y:Nat,((a16:Int)+s0+a7+s1)%4294967296=(y:Int)∧Hid (y=Sha.next W):=by
      refine ⟨Sha.next W,?_,rfl⟩
      unfold Sha.next
      rw [hWl,← ht,← h15,← h2,← h16,← h7,← R1.out,← R2.out,← R3.out,← R4.out,← S0.out,← S1.out]
      omega
     have q15:wr.cell? ⟨g,t-15,none⟩=some (.int .u64 (a15:Int)):=by rw [HQ.out _ (by omega),← h15];rfl
     have q2:wr.cell? ⟨g,t-2,none⟩=some (.int .u64 (a2:Int)):=by rw [HQ.out _ (by omega),← h2];rfl
     have HQ16:Hid (wr.cell? ⟨g,t-16,none⟩=some (.int .u64 (a16:Int))):=by show _=_;rw [HQ.out _ (by omega),← h16];rfl
     have HQ7:Hid (wr.cell? ⟨g,t-7,none⟩=some (.int .u64 (a7:Int))):=by show _=_;rw [HQ.out _ (by omega),← h7];rfl
     have HWL:Hid (W.length=t∧t=16+m):=⟨by omega,ht⟩
     have htI:(t:Int)<64:=by omega
     have ht16:16≤t:=by omega
     have T1:Hid (∀ wz x n,x<4294967296→0<n→n<32→Calls Tryz.prog 78 #[.int .u64 ((x:Nat):Int),.int .u64 ((n:Nat):Int)] wz fun e w'=>e=.returned (.int .u64 ((Sha.rot x n:Nat):Int))∧wz=w'):=fun wz x n h1 h2 h3=>kO x n wz h1 h2 h3
     have C7:Hid (∀ wz,Calls Tryz.prog 78 #[.int .u64 (a15:Int),.int .u64 7] wz fun e w'=>e=.returned (.int .u64 (r1:Int))∧wz=w'):=fun wz=>by rw [R1.out];exact kO a15 7 wz b15 (by omega) (by omega)
     have C18:Hid (∀ wz,Calls Tryz.prog 78 #[.int .u64 (a15:Int),.int .u64 18] wz fun e w'=>e=.returned (.int .u64 (r2:Int))∧wz=w'):=fun wz=>by rw [R2.out];exact kO a15 18 wz b15 (by omega) (by omega)
     have C17:Hid (∀ wz,Calls Tryz.prog 78 #[.int .u64 (a2:Int),.int .u64 17] wz fun e w'=>e=.returned (.int .u64 (r3:Int))∧wz=w'):=fun wz=>by rw [R3.out];exact kO a2 17 wz b2 (by omega) (by omega)
     have C19:Hid (∀ wz,Calls Tryz.prog 78 #[.int .u64 (a2:Int),.int .u64 19] wz fun e w'=>e=.returned (.int .u64 (r4:Int))∧wz=w'):=fun wz=>by rw [R4.out];exact kO a2 19 wz b2 (by omega) (by omega)
     have hlt64:t<64:=by omega
     have i15:IntKind.i64.wrap ((t:Int)-15)=((t-15:Nat):Int):=by rw [IntKind.wrap_i64];omega
     have i2:IntKind.i64.wrap ((t:Int)-2)=((t-2:Nat):Int):=by rw [IntKind.wrap_i64];omega
     have i16:IntKind.i64.wrap ((t:Int)-16)=((t-16:Nat):Int):=by rw [IntKind.wrap_i64];omega
     have i7:IntKind.i64.wrap ((t:Int)-7)=((t-7:Nat):Int):=by rw [IntKind.wrap_i64];omega
     clear h15 h2 h16 h7 R1 R2 R3 R4 S0 S1 hWl ht T1 HQ hlt hm
     go_wp2_with fail
     go_quiet (fail)
     go_upto_region 17 with (first
      | (go_at_call_of 78 (Value.int IntKind.u64 7);refine (C7.out _).mono ?_;rintro e w' ⟨rfl,rfl⟩)
      | (go_at_call_of 78 (Value.int IntKind.u64 18);refine (C18.out _).mono ?_;rintro e w' ⟨rfl,rfl⟩)
      | (go_at_call_of 78 (Value.int IntKind.u64 17);refine (C17.out _).mono ?_;rintro e w' ⟨rfl,rfl⟩)
      | (go_at_call_of 78 (Value.int IntKind.u64 19);refine (C19.out _).mono ?_;rintro e w' ⟨rfl,rfl⟩))
     refine qY (fun wq=>qq wq w.heap.size (.slice (some ⟨g,0,none⟩) t cp) W∧Below w.heap.size w wq∧wq.cell? ⟨g,t-16,none⟩=some (.int .u64 (a16:Int))∧wq.cell? ⟨g,t-7,none⟩=some (.int .u64 (a7:Int))) ⟨HO.out.block fun _ _=>rfl,HW.out.trans ⟨rfl,rfl,rfl,Nat.le_refl _,fun _ _=>rfl⟩,HQ16.out,HQ7.out⟩ fun wq HHq=>?_
     clear q15 q2
     have n16:¬ (t≤t-16):=by omega
     have n7:¬ (t≤t-7):=by omega
     have u1:IntKind.u64.wrap ((a16:Int)+s0)=(a16:Int)+s0:=by rw [IntKind.wrap_u64];omega
     have u2:IntKind.u64.wrap ((a16:Int)+s0+a7)=(a16:Int)+s0+a7:=by rw [IntKind.wrap_u64];omega
     have u3':IntKind.u64.wrap ((a16:Int)+s0+a7+s1)=(a16:Int)+s0+a7+s1:=by rw [IntKind.wrap_u64];omega
     have u4:Int.tmod ((a16:Int)+s0+a7+s1) 4294967296=(y:Int):=by rw [Int.tmod_eq_emod_of_nonneg (by omega)];exact hy
     refine wp_region_any (by kernel_rfl) ?_
     change wpAny _ _ _ _ _ _ _ (World.drew _)
     generalize hw4:World.drew wq=wq
     rename_i wq0
     have HBW:Hid (Below w.heap.size w wq):=by rw [← hw4];exact HHq.2.1.trans ⟨rfl,rfl,rfl,Nat.le_refl _,fun _ _=>rfl⟩
     have HOW:Hid (∀ c:Obj,qq (wq.alloc c) w.heap.size (.slice (some ⟨g,0,none⟩) t cp) W):=by rw [← hw4];exact fun c=>(HHq.1.block (w':=wq0.drew) fun _ _=>rfl).block fun q hq=>heap_alloc_old _ _ hq
     have HCa:Hid (wq.cell? ⟨g,t-16,none⟩=some (.int .u64 (a16:Int))):=by rw [← hw4];exact HHq.2.2.1
     have HCb:Hid (wq.cell? ⟨g,t-7,none⟩=some (.int .u64 (a7:Int))):=by rw [← hw4];exact HHq.2.2.2
     clear hw4 HHq
     refine wT 0 (.slice (some ⟨g,0,none⟩) t cp) rfl (Or.inl ⟨by kernel_rfl,?_⟩) ?_
     ·intro wz;go_simp
     refine wT 1 (.slice (some ⟨g,0,none⟩) t cp) rfl (Or.inl ⟨by kernel_rfl,?_⟩) ?_
     ·intro wz;go_simp
     refine wT 2 (.int .i64 (t:Int)) rfl (Or.inl ⟨by kernel_rfl,?_⟩) ?_
     ·intro wz;go_simp
     refine wT 3 (.int .i64 ((t-16:Nat):Int)) rfl (Or.inl ⟨by kernel_rfl,?_⟩) ?_
     ·intro wz;go_simp
     refine wT 4 (.pointer (some ⟨g,t-16,none⟩)) rfl (Or.inl ⟨by kernel_rfl,?_⟩) ?_
     ·intro wz;go_simp
     refine wT 6 (.int .u64 (s0:Int)) rfl (Or.inl ⟨by kernel_rfl,?_⟩) ?_
     ·intro wz;go_simp
     refine wT 8 (.slice (some ⟨g,0,none⟩) t cp) rfl (Or.inl ⟨by kernel_rfl,?_⟩) ?_
     ·intro wz;go_simp
     refine wT 9 (.int .i64 (t:Int)) rfl (Or.inl ⟨by kernel_rfl,?_⟩) ?_
     ·intro wz;go_simp
     refine wT 10 (.int .i64 ((t-7:Nat):Int)) rfl (Or.inl ⟨by kernel_rfl,?_⟩) ?_
     ·intro wz;go_simp
     refine wT 11 (.pointer (some ⟨g,t-7,none⟩)) rfl (Or.inl ⟨by kernel_rfl,?_⟩) ?_
     ·intro wz;go_simp
     refine wT 14 (.int .u64 (s1:Int)) rfl (Or.inl ⟨by kernel_rfl,?_⟩) ?_
     ·intro wz;go_simp
     simp only [Act.put,sD,sE,sF,sA,sB,sC]
     refine wR [5,12] ?_
     refine kq rfl rfl (.tmp 69) rfl ⟨g,t-16,none⟩ rfl (.int .u64 (a16:Int)) HCa.out ?_ (kq rfl rfl (.tmp 76) rfl ⟨g,t-7,none⟩ rfl (.int .u64 (a7:Int)) HCb.out ?_ AllReady.nil)
     ·simp only [Act.put,sD,sE,sF,sA,sB,sC]
      refine wT 7 (.int .u64 ((a16:Int)+s0)) rfl (Or.inl ⟨by kernel_rfl,?_⟩) ?_
      ·intro wz;go_simp
      simp only [Act.put,sD,sE,sF,sA,sB,sC]
      refine wR [12] ?_
      refine kq rfl rfl (.tmp 76) rfl ⟨g,t-7,none⟩ rfl (.int .u64 (a7:Int)) HCb.out ?_ AllReady.nil
      simp only [Act.put,sD,sE,sF,sA,sB,sC]
      refine wT 13 (.int .u64 ((a16:Int)+s0+a7)) rfl (Or.inl ⟨by kernel_rfl,?_⟩) ?_
      ·intro wz;go_simp
      refine wT 15 (.int .u64 ((a16:Int)+s0+a7+s1)) rfl (Or.inl ⟨by kernel_rfl,?_⟩) ?_
      ·intro wz;go_simp
      refine wT 16 (.int .u64 (y:Int)) rfl (Or.inl ⟨by kernel_rfl,?_⟩) ?_
      ·intro wz;go_simp
      simp only [Act.put,sD,sE,sF,sA,sB,sC]
      refine wR [17] ?_
      refine AllReady.cons rfl (fun K' hK'=>?_) AllReady.nil
      go_simp
      refine hK' _ _ ?_
      clear hK' K'
      refine wR [18] ?_
      refine yz rfl rfl (.tmp 65) (.tmp 82) rfl w.heap.size (.slice (some ⟨g,0,none⟩) t cp) wq.heap.size y W rfl rfl (HOW.out _) (by rw [cell_of_row _ _ 0 _ _ _ (heap_alloc_new _ _)];rfl) (by have:=HWL.out;omega) (by have:=HBW.out.size;simp;omega) (fun v' w' ho' hb'=>?_) AllReady.nil
      have R:Hid (qq w' w.heap.size v' (W++[y])∧Below w.heap.size w w'):=⟨ho',HBW.out.trans (((Below.refl w.heap.size wq).alloc HBW.out.size _).trans hb')⟩
      clear ho' hb'
      obtain ⟨vo',vc',hv'⟩:=R.out.1.has.form
      subst hv'
      refine wT 19 (.slice vo' (W++[y]).length vc') rfl (Or.inl ⟨by kernel_rfl,?_⟩) ?_
      ·intro wz;go_simp
      refine wpAny_done (by kernel_rfl) ?_ _
      go_simp
      go_wp2_with fail
      go_roundw
      case rel=>exact ⟨m+1,by have:=HWL.out;omega,by have:=HWL.out.2;go_num,by rw [HWN.out,← HY.out];have:=R.out.1;rw [List.length_append] at this;exact this,R.out.2⟩
      case measure=>simp [intOf];omega
     ·simp only [Act.put,sD,sE,sF,sA,sB,sC]
      refine wR [5] ?_
      refine kq rfl rfl (.tmp 69) rfl ⟨g,t-16,none⟩ rfl (.int .u64 (a16:Int)) HCa.out ?_ AllReady.nil
      simp only [Act.put,sD,sE,sF,sA,sB,sC]
      refine wT 7 (.int .u64 ((a16:Int)+s0)) rfl (Or.inl ⟨by kernel_rfl,?_⟩) ?_
      ·intro wz;go_simp
      refine wT 13 (.int .u64 ((a16:Int)+s0+a7)) rfl (Or.inl ⟨by kernel_rfl,?_⟩) ?_
      ·intro wz;go_simp
      refine wT 15 (.int .u64 ((a16:Int)+s0+a7+s1)) rfl (Or.inl ⟨by kernel_rfl,?_⟩) ?_
      ·intro wz;go_simp
      refine wT 16 (.int .u64 (y:Int)) rfl (Or.inl ⟨by kernel_rfl,?_⟩) ?_
      ·intro wz;go_simp
      simp only [Act.put,sD,sE,sF,sA,sB,sC]
      refine wR [17] ?_
      refine AllReady.cons rfl (fun K' hK'=>?_) AllReady.nil
      go_simp
      refine hK' _ _ ?_
      clear hK' K'
      refine wR [18] ?_
      refine yz rfl rfl (.tmp 65) (.tmp 82) rfl w.heap.size (.slice (some ⟨g,0,none⟩) t cp) wq.heap.size y W rfl rfl (HOW.out _) (by rw [cell_of_row _ _ 0 _ _ _ (heap_alloc_new _ _)];rfl) (by have:=HWL.out;omega) (by have:=HBW.out.size;simp;omega) (fun v' w' ho' hb'=>?_) AllReady.nil
      have R:Hid (qq w' w.heap.size v' (W++[y])∧Below w.heap.size w w'):=⟨ho',HBW.out.trans (((Below.refl w.heap.size wq).alloc HBW.out.size _).trans hb')⟩
      clear ho' hb'
      obtain ⟨vo',vc',hv'⟩:=R.out.1.has.form
      subst hv'
      refine wT 19 (.slice vo' (W++[y]).length vc') rfl (Or.inl ⟨by kernel_rfl,?_⟩) ?_
      ·intro wz;go_simp
      refine wpAny_done (by kernel_rfl) ?_ _
      go_simp
      go_wp2_with fail
      go_roundw
      case rel=>exact ⟨m+1,by have:=HWL.out;omega,by have:=HWL.out.2;go_num,by rw [HWN.out,← HY.out];have:=R.out.1;rw [List.length_append] at this;exact this,R.out.2⟩
      case measure=>simp [intOf];omega
    ·have hmI:¬ (((16+m:Nat):Int)<64):=by omega
     obtain rfl:m=48:=by omega
     obtain ⟨vo,vc,rfl⟩:=HO.out.has.form
     have R:Hid (qq wr w.heap.size _ (Sha.sched b)∧Below w.heap.size w wr):=⟨HO.out,HW.out⟩
     have hl64:(Sha.growF Sha.next 48 (Sha.firstsF (fun i=>Sha.word b (4*i)) 16)).length=64:=by rw [Sha.yN,Sha.ql]
     rw [hl64] at R ⊢
     clear HO HW
     go_wp2
     go_ret
     exact ⟨_,rfl,R.out⟩
theorem cr {w:World} {ops:Array Oper} {rest:List Oper} {o:Oper} {a:Act} {Q:Exit→Act→World→Prop} (hgd:o.guard=none) (x:Operand)
  (ho:o.op=.call { callee:=.builtin .append,args:=#[.const (.slice none 0 0),x],argTypes:=#[102,102] })
  (lo:Nat) (v:Value) (l:List Nat) (hx:a.eval x=v) (hh:HasQ w v l) (hpos:0<l.length)
  (hlen:l.length≤65536) (hbase:lo≤w.heap.size)
  (h:∀ v' w',qq w' lo v' l→Below lo w w'→wpList Tryz.prog ops Q rest (a.put o.dst v') w'):wpList Tryz.prog ops Q (o::rest) a w:=by
 obtain ⟨i0,hi,hz0,hz1,hz2⟩:=info_parts Tryz.info68
 obtain ⟨g,cap,rfl,hc⟩:=hh.at hpos
 refine wpList_append_own w hgd _ x 102 ho lo 68 i0 (.int .u64 0) 1 8 Tryz.underlying102 hi hz0 hz1 hz2 rfl (by decide) (.slice none 0 0) 0 [] rfl (World.ownsRow_nil _ _ _ _) ⟨g,0,none⟩ l.length cap (l.map vq) hx (by simp) ?_ ?_ ?_ ?_ hbase ?_
 ·intro j u hj
  have hjl:j<l.length:=by
   have:=(List.getElem?_eq_some_iff.1 hj).1
   simpa using this
  rw [show (⟨g,0,none⟩:Addr).add j=⟨g,j,none⟩ by unfold Addr.add;split<;>simp_all,hc.out j hjl]
  simpa [List.getD,gl hjl] using hj
 ·intro u hu;obtain ⟨_,_,rfl⟩:=List.mem_map.1 hu;rfl
 ·unfold maxLen;omega
 ·omega
 ·intro v' w' h4 h5 _
  refine h v' w' ?_ ((Below.refl lo w).grown h5 hbase fun k hk=>by simp [Value.ownBlock] at hk)
  unfold qq
  simpa using h4
theorem ni {e f g:Nat} (he:e<4294967296) (hf:f<4294967296) (hg:g<4294967296):
  ∃ ef eg ch:Nat,bits .and .u64 (e:Int) (f:Int)=(ef:Int)∧bits .and .u64 (4294967295-(e:Int)) (g:Int)=(eg:Int)∧bits .xor .u64 (ef:Int) (eg:Int)=(ch:Int)∧ch<4294967296∧Hid (ch=(e &&& f) ^^^ ((4294967295-e) &&& g)):=by
 have h1:e &&& f<4294967296:=Nat.and_lt_two_pow (n:=32) _ hf
 have h2:(4294967295-e) &&& g<4294967296:=Nat.and_lt_two_pow (n:=32) _ hg
 refine ⟨e &&& f,(4294967295-e) &&& g,_,u64_and_nat _ _ (by omega) (by omega),?_,u64_xor_nat _ _ (by omega) (by omega),Nat.xor_lt_two_pow (n:=32) h1 h2,rfl⟩
 rw [show (4294967295-(e:Int))=((4294967295-e:Nat):Int) by omega,u64_and_nat _ _ (by omega) (by omega)]
theorem iJ {a b c:Nat} (ha:a<4294967296) (hb:b<4294967296) (hc:c<4294967296):
  ∃ ab ac bc m1 mj:Nat,bits .and .u64 (a:Int) (b:Int)=(ab:Int)∧bits .and .u64 (a:Int) (c:Int)=(ac:Int)∧bits .and .u64 (b:Int) (c:Int)=(bc:Int)∧bits .xor .u64 (ab:Int) (ac:Int)=(m1:Int)∧bits .xor .u64 (m1:Int) (bc:Int)=(mj:Int)∧mj<4294967296∧Hid (mj=(a &&& b) ^^^ (a &&& c) ^^^ (b &&& c)):=by
 have h1:a &&& b<4294967296:=Nat.and_lt_two_pow (n:=32) _ hb
 have h2:a &&& c<4294967296:=Nat.and_lt_two_pow (n:=32) _ hc
 have h3:b &&& c<4294967296:=Nat.and_lt_two_pow (n:=32) _ hc
 have h4:(a &&& b) ^^^ (a &&& c)<4294967296:=Nat.xor_lt_two_pow (n:=32) h1 h2
 exact ⟨_,_,_,_,_,u64_and_nat _ _ (by omega) (by omega),u64_and_nat _ _ (by omega) (by omega),u64_and_nat _ _ (by omega) (by omega),u64_xor_nat _ _ (by omega) (by omega),u64_xor_nat _ _ (by omega) (by omega),Nat.xor_lt_two_pow (n:=32) h4 h3,rfl⟩
theorem bz {x i j k:Nat} (hx:x<4294967296):
  ∃ r1 r2 r3 q s:Nat,Hid (r1=Sha.rot x i)∧Hid (r2=Sha.rot x j)∧Hid (r3=Sha.rot x k)∧bits .xor .u64 (r1:Int) (r2:Int)=(q:Int)∧bits .xor .u64 (q:Int) (r3:Int)=(s:Int)∧s<4294967296∧Hid (s=Sha.tri x i j k):=by
 have h1:Sha.rot x i<4294967296:=kr hx
 have h2:Sha.rot x j<4294967296:=kr hx
 have h3:Sha.rot x k<4294967296:=kr hx
 have h4:=Nat.xor_lt_two_pow (n:=32) h1 h2
 exact ⟨_,_,_,_,_,rfl,rfl,rfl,u64_xor_nat _ _ (by omega) (by omega),u64_xor_nat _ _ (by omega) (by omega),Nat.xor_lt_two_pow (n:=32) h4 h3,rfl⟩
theorem wJ {k w:Nat} {v:Sha.V} (h:vok v):vok (Sha.rnd k w v):=by
 obtain ⟨h1,h2,h3,h4,h5,h6,h7,h8⟩:=h
 exact ⟨Nat.mod_lt _ (by decide),h1,h2,h3,Nat.mod_lt _ (by decide),h5,h6,h7⟩
theorem ey (f:Nat→Sha.V→Sha.V) (hf:∀ n v,vok v→vok (f n v)):∀ n v,vok v→vok (Sha.runF f n v)
 | 0,_,h=>h
 | n+1,v,h=>hf n _ (ey f hf n v h)
theorem zX {w:World} {g cap:Nat} {U:Sha.V} (h:HasQ w (.slice (some ⟨g,0,none⟩) 8 cap) (jZ U)):∀ i,i<8→w.cell? ⟨g,i,none⟩=some (vq ((jZ U).getD i 0)):=by
 rcases h with ⟨h,_⟩ | ⟨g',c',e,_,hc⟩
 ·cases h
 ·simp only [Value.slice.injEq,Option.some.injEq,Addr.mk.injEq,and_true] at e
  obtain ⟨rfl,_,_⟩:=e
  exact hc
theorem bJ {f:FuncId} {args:Array Value} {w:World} {v:Value} (h:Calls Tryz.prog f args w fun e w'=>e=.returned v∧w=w'):Calls Tryz.prog f args w fun e w'=>e=.returned v∧w'=w:=h.mono fun _ _ ⟨h1,h2⟩=>⟨h1,h2.symm⟩
theorem pt (W:World) (l:List Nat) (T:TypeId):HasQ ((W.alloc (.cells (l.map vq).toArray T)).drew) (.slice (some ⟨W.heap.size,0,none⟩) l.length l.length) l:=by
 refine .inr ⟨_,_,rfl,Nat.le_refl _,fun i hi=>?_⟩
 have h:((W.alloc (.cells (l.map vq).toArray T)).drew).heap[W.heap.size]?=some (.cells (l.map vq).toArray T (0,0)):=heap_alloc_new W _
 rw [cell_of_row _ _ i _ _ _ h]
 simp [List.getD,hi]
theorem iK {w:World} {lo lo':Nat} {v:Value} {l:List Nat} (h:qq w lo v l) (hl:lo'≤lo):qq w lo' v l:=by
 obtain ⟨h1,h | ⟨g,cap,cur,hv,hg,hr⟩⟩:=h
 ·exact ⟨h1,.inl h⟩
 ·exact ⟨h1,.inr ⟨g,cap,cur,hv,Nat.le_trans hl hg,hr⟩⟩
theorem cx {V:Sha.V} (h:vok V) (i:Nat):(jZ V).getD i 0<4294967296:=by
 obtain ⟨h1,h2,h3,h4,h5,h6,h7,h8⟩:=h
 match i with
 | 0=>exact h1
 | 1=>exact h2
 | 2=>exact h3
 | 3=>exact h4
 | 4=>exact h5
 | 5=>exact h6
 | 6=>exact h7
 | 7=>exact h8
 | n+8=>simp [jZ]
theorem nj (V R:Sha.V) (k:Nat) (hk:k<8):(jZ (Sha.plus V R)).take k++[((jZ V).getD k 0+(jZ R).getD k 0)%4294967296]=(jZ (Sha.plus V R)).take (k+1):=by
 match k,hk with
 | 0,_ | 1,_ | 2,_ | 3,_ | 4,_ | 5,_ | 6,_ | 7,_=>rfl
theorem nk (vh vk v:Value) (V:Sha.V) (b:List Nat) (w:World) (hh:HasQ w vh (jZ V)) (hV:vok V) (hk:HasQ w vk Sha.ks) (hv:Has w v b) (hB:Bytes b) (hl:b.length=64):
  Calls Tryz.prog 62 #[vh,vk,v] w fun e w'=>∃ u,e=.returned u∧qq w' w.heap.size u (jZ (Sha.mix V b))∧Below w.heap.size w w':=by
 obtain ⟨gh,ch,rfl,_⟩:=hh.at (by simp [jZ])
 rw [show (jZ V).length=8 from rfl] at hh ⊢
 obtain ⟨gk,ck,rfl,_⟩:=hk.at (by decide)
 rw [show Sha.ks.length=64 from rfl] at hk ⊢
 obtain ⟨ws,hws⟩:∃ ws,ws=Sha.sched b:=⟨_,rfl⟩
 have HWS:Hid (ws=Sha.sched b∧ws.length=64∧∀ i,ws.getD i 0<4294967296):=⟨hws,by rw [hws,Sha.sched,Sha.yN,Sha.ql],fun i=>by
  by_cases hj:i<ws.length
  ·exact (by rw [hws];exact gS hB:∀ x∈ws,x<4294967296) _ (by simp [List.getD,gl hj])
  ·simp [List.getD,List.getElem?_eq_none (Nat.le_of_not_lt hj)]⟩
 have CW:Hid (Calls Tryz.prog 77 #[v] w fun e w'=>∃ gw cw,e=.returned (.slice (some ⟨gw,0,none⟩) 64 cw)∧(HasQ w' (.slice (some ⟨gw,0,none⟩) 64 cw) ws∧Below w.heap.size w w')):=by
  refine (bL v b w hv hB hl).mono fun e w' ⟨u,h1,h2,h3⟩=>?_
  rw [← hws] at h2
  obtain ⟨g,c,e2,_⟩:=h2.has.at (by have:=HWS.out.2.1;omega)
  rw [HWS.out.2.1] at e2
  exact ⟨g,c,by rw [h1,e2],by rw [← e2];exact h2.has,h3⟩
 have HH:Hid (HasQ w (.slice (some ⟨gh,0,none⟩) 8 ch) (jZ V)∧HasQ w (.slice (some ⟨gk,0,none⟩) 64 ck) Sha.ks∧vok V):=⟨hh,hk,hV⟩
 clear hh hk hv hB hl hws hV
 go_enter Tryz.func62,Tryz.ntmps62
 go_wp2_with (first
  | (go_at_call 77;refine CW.out.mono ?_;rintro e w1 ⟨gw,cw,rfl,h1⟩;have H1:Hid (HasQ w1 (.slice (some ⟨gw,0,none⟩) 64 cw) ws∧Below w.heap.size w w1):=h1;clear h1)
  | (at_builtin;refine cr rfl (.tmp 20) rfl w1.heap.size _ (jZ V) rfl (HH.out.1.below H1.out.2) (by simp [jZ]) (by simp [jZ]) (Nat.le_refl _) ?_;intro v2 w2 ho2 hb2;obtain ⟨g2,c2,e2,_⟩:=ho2.has.at (by simp [jZ]);rw [show (jZ V).length=8 from rfl] at e2;subst e2;have H2:Hid (HasQ w2 (.slice (some ⟨g2,0,none⟩) 8 c2) (jZ V)∧HasQ w2 (.slice (some ⟨gw,0,none⟩) 64 cw) ws∧Below w.heap.size w w2):=⟨ho2.has,H1.out.1.below hb2,Below.up H1.out.2 hb2⟩;clear ho2 hb2))
 go_loopw [8,9] (fun vv i wr=>∃ (k gv cv:Nat),k≤64∧i=.int .i64 k∧vv=.slice (some ⟨gv,0,none⟩) 8 cv∧Hid (HasQ wr (.slice (some ⟨gv,0,none⟩) 8 cv) (jZ (Sha.run ws k V)))∧Hid (Below w2.heap.size w2 wr)) (fun _ i _=>64-(intOf i).toNat)
 case atStart=>exact ⟨0,g2,c2,by omega,rfl,rfl,H2.out.1,Below.refl _ _⟩
 case round=>
  obtain ⟨k,gv,cv,hk,rfl,rfl,HV,HW⟩:=hrel
  by_cases hlt:k<64
  ·have hkI:(k:Int)<64:=by omega
   obtain ⟨U,hU⟩:∃ U,U=Sha.run ws k V:=⟨_,rfl⟩
   have HU:Hid (Sha.run ws (k+1) V=Sha.rnd (Sha.ks.getD k 0) (ws.getD k 0) U):=by show _=_;rw [hU];rfl
   have hok:vok U:=by rw [hU];exact ey _ (fun n v h=>wJ h) k V HH.out.2.2
   rw [← hU] at HV
   clear hU
   obtain ⟨a,b',c,d,e,f,g,h⟩:=U
   obtain ⟨oa,ob,oc,od,oe,of,og,oh⟩:=hok
   simp only at oa ob oc od oe of og oh
   obtain ⟨kt,hkt⟩:∃ x,x=Sha.ks.getD k 0:=⟨_,rfl⟩
   obtain ⟨wt,hwt⟩:∃ x,x=ws.getD k 0:=⟨_,rfl⟩
   have okt:kt<4294967296:=by rw [hkt];exact a2e k
   have owt:wt<4294967296:=by rw [hwt];exact HWS.out.2.2 k
   have VC:=zX HV.out
   have p0:wr.cell? ⟨gv,0,none⟩=some (.int .u64 (a:Int)):=VC 0 (by omega)
   have p1:wr.cell? ⟨gv,1,none⟩=some (.int .u64 (b':Int)):=VC 1 (by omega)
   have p2:wr.cell? ⟨gv,2,none⟩=some (.int .u64 (c:Int)):=VC 2 (by omega)
   have p3:wr.cell? ⟨gv,3,none⟩=some (.int .u64 (d:Int)):=VC 3 (by omega)
   have p4:wr.cell? ⟨gv,4,none⟩=some (.int .u64 (e:Int)):=VC 4 (by omega)
   have p5:wr.cell? ⟨gv,5,none⟩=some (.int .u64 (f:Int)):=VC 5 (by omega)
   have p6:wr.cell? ⟨gv,6,none⟩=some (.int .u64 (g:Int)):=VC 6 (by omega)
   have p7:wr.cell? ⟨gv,7,none⟩=some (.int .u64 (h:Int)):=VC 7 (by omega)
   have pk:wr.cell? ⟨gk,k,none⟩=some (.int .u64 (kt:Int)):=by
    obtain ⟨g',c',e',hc⟩:=(HH.out.2.1.below (Below.up H2.out.2.2 HW.out)).at (by decide)
    simp only [Value.slice.injEq,Option.some.injEq,Addr.mk.injEq,and_true] at e'
    obtain ⟨rfl,_⟩:=e'
    rw [hc.out k (by show k<64;omega),hkt];rfl
   have pw:wr.cell? ⟨gw,k,none⟩=some (.int .u64 (wt:Int)):=by
    obtain ⟨g',c',e',hc⟩:=(H2.out.2.1.below HW.out).at (by have:=HWS.out.2.1;omega)
    simp only [Value.slice.injEq,Option.some.injEq,Addr.mk.injEq,and_true] at e'
    obtain ⟨rfl,_⟩:=e'
    rw [hc.out k (by have:=HWS.out.2.1;omega),hwt];rfl
   obtain ⟨r6,r11,r25,qe,se,R6,R11,R25,eq1,eq2,lse,SE⟩:=bz (x:=e) (i:=6) (j:=11) (k:=25) oe
   obtain ⟨r2,r13,r22,qa,sa,R2,R13,R22,eq3,eq4,lsa,SA⟩:=bz (x:=a) (i:=2) (j:=13) (k:=22) oa
   obtain ⟨ef,eg,chh,eq5,eq6,eq7,lch,CH⟩:=ni oe of og
   obtain ⟨ab,ac,bc,m1,mj,eq8,eq9,eq10,eq11,eq12,lmj,MJ⟩:=iJ oa ob oc
   obtain ⟨x,hx,HX,lx⟩:∃ x:Nat,Int.tmod ((h:Int)+se+chh+kt+wt) 4294967296=(x:Int)∧Hid (x=Sha.xOf kt wt ⟨a,b',c,d,e,f,g,h⟩)∧x<4294967296:=by
    refine ⟨(h+se+chh+kt+wt)%4294967296,by rw [Int.tmod_eq_emod_of_nonneg (by omega)];omega,?_,by omega⟩
    show _=_
    unfold Sha.xOf
    rw [SE.out,CH.out]
   obtain ⟨n0,hn0,HN0,ln0⟩:∃ y:Nat,Int.tmod ((x:Int)+((sa:Int)+mj)) 4294967296=(y:Int)∧Hid (y=(Sha.xOf kt wt ⟨a,b',c,d,e,f,g,h⟩+Sha.yOf ⟨a,b',c,d,e,f,g,h⟩)%4294967296)∧y<4294967296:=by
    refine ⟨(x+(sa+mj))%4294967296,by rw [Int.tmod_eq_emod_of_nonneg (by omega)];omega,?_,by omega⟩
    show _=_
    unfold Sha.yOf
    rw [← SA.out,← MJ.out,← HX.out];omega
   obtain ⟨n4,hn4,HN4,ln4⟩:∃ y:Nat,Int.tmod ((d:Int)+x) 4294967296=(y:Int)∧Hid (y=(d+Sha.xOf kt wt ⟨a,b',c,d,e,f,g,h⟩)%4294967296)∧y<4294967296:=by
    refine ⟨(d+x)%4294967296,by rw [Int.tmod_eq_emod_of_nonneg (by omega)];omega,?_,by omega⟩
    show _=_
    rw [← HX.out]
   have HRN:Hid (jZ (Sha.run ws (k+1) V)=[n0,a,b',c,n4,e,f,g]):=by
    show _=_
    rw [HU.out,← hkt,← hwt,HN0.out,HN4.out];rfl
   have C6:Hid (∀ wz,Calls Tryz.prog 78 #[.int .u64 (e:Int),.int .u64 6] wz fun e w'=>e=.returned (.int .u64 (r6:Int))∧wz=w'):=fun wz=>by rw [R6.out];exact kO e 6 wz oe (by omega) (by omega)
   have C11:Hid (∀ wz,Calls Tryz.prog 78 #[.int .u64 (e:Int),.int .u64 11] wz fun e w'=>e=.returned (.int .u64 (r11:Int))∧wz=w'):=fun wz=>by rw [R11.out];exact kO e 11 wz oe (by omega) (by omega)
   have C25:Hid (∀ wz,Calls Tryz.prog 78 #[.int .u64 (e:Int),.int .u64 25] wz fun e w'=>e=.returned (.int .u64 (r25:Int))∧wz=w'):=fun wz=>by rw [R25.out];exact kO e 25 wz oe (by omega) (by omega)
   have C2:Hid (∀ wz,Calls Tryz.prog 78 #[.int .u64 (a:Int),.int .u64 2] wz fun e w'=>e=.returned (.int .u64 (r2:Int))∧wz=w'):=fun wz=>by rw [R2.out];exact kO a 2 wz oa (by omega) (by omega)
   have C13:Hid (∀ wz,Calls Tryz.prog 78 #[.int .u64 (a:Int),.int .u64 13] wz fun e w'=>e=.returned (.int .u64 (r13:Int))∧wz=w'):=fun wz=>by rw [R13.out];exact kO a 13 wz oa (by omega) (by omega)
   have C22:Hid (∀ wz,Calls Tryz.prog 78 #[.int .u64 (a:Int),.int .u64 22] wz fun e w'=>e=.returned (.int .u64 (r22:Int))∧wz=w'):=fun wz=>by rw [R22.out];exact kO a 22 wz oa (by omega) (by omega)
   have u1:IntKind.u64.wrap ((h:Int)+se)=(h:Int)+se:=by rw [IntKind.wrap_u64];omega
   have u2:IntKind.u64.wrap ((h:Int)+se+chh)=(h:Int)+se+chh:=by rw [IntKind.wrap_u64];omega
   have u3:IntKind.u64.wrap ((h:Int)+se+chh+kt)=(h:Int)+se+chh+kt:=by rw [IntKind.wrap_u64];omega
   have u4:IntKind.u64.wrap ((h:Int)+se+chh+kt+wt)=(h:Int)+se+chh+kt+wt:=by rw [IntKind.wrap_u64];omega
   have u5:IntKind.u64.wrap ((sa:Int)+mj)=(sa:Int)+mj:=by rw [IntKind.wrap_u64];omega
   have u6:IntKind.u64.wrap ((x:Int)+((sa:Int)+mj))=(x:Int)+((sa:Int)+mj):=by rw [IntKind.wrap_u64];omega
   have u7:IntKind.u64.wrap ((d:Int)+x)=(d:Int)+x:=by rw [IntKind.wrap_u64];omega
   have u8:IntKind.u64.wrap (4294967295-(e:Int))=4294967295-(e:Int):=by rw [IntKind.wrap_u64];omega
   clear hkt hwt VC R6 R11 R25 R2 R13 R22 SE SA CH MJ HX HN0 HN4 HU hk hlt HV
   go_upto_region 9 with (first
      | (go_at_call_of 78 (Value.int IntKind.u64 6);refine (C6.out _).mono ?_;rintro e w' ⟨rfl,rfl⟩)
      | (go_at_call_of 78 (Value.int IntKind.u64 11);refine (C11.out _).mono ?_;rintro e w' ⟨rfl,rfl⟩)
      | (go_at_call_of 78 (Value.int IntKind.u64 25);refine (C25.out _).mono ?_;rintro e w' ⟨rfl,rfl⟩))
   go_quiet (fail)
   go_upto_region 11 with fail
   refine qY (fun W=>(∀ a,W.cell? a=wr.cell? a)∧Below w2.heap.size w2 W) ⟨fun _=>rfl,HW.out.trans ⟨rfl,rfl,rfl,Nat.le_refl _,fun _ _=>rfl⟩⟩ fun wq HHq=>?_
   have s0:=(HHq.1 _).trans p0
   have s1:=(HHq.1 _).trans p1
   have s2:=(HHq.1 _).trans p2
   have s3:=(HHq.1 _).trans p3
   have s5:=(HHq.1 _).trans p5
   have s6:=(HHq.1 _).trans p6
   have HWq:Hid (Below w2.heap.size w2 wq):=HHq.2
   clear HHq p0 p1 p2 p3 p4 p5 p6 p7 pk pw
   go_quiet (first | (go_at_call_of 78 (Value.int IntKind.u64 2);exact Calls.quiet_of_same (bJ (C2.out _))) | (go_at_call_of 78 (Value.int IntKind.u64 13);exact Calls.quiet_of_same (bJ (C13.out _))) | (go_at_call_of 78 (Value.int IntKind.u64 22);exact Calls.quiet_of_same (bJ (C22.out _))))
   go_upto_region 12 with fail
   refine qY (fun W=>(∀ a,W.cell? a=wq.cell? a)∧Below w2.heap.size w2 W) ⟨fun _=>rfl,HWq.out.trans ⟨rfl,rfl,rfl,Nat.le_refl _,fun _ _=>rfl⟩⟩ fun wy HHq=>?_
   have t1:=(HHq.1 _).trans s1
   have t2:=(HHq.1 _).trans s2
   have t3:=(HHq.1 _).trans s3
   have t5:=(HHq.1 _).trans s5
   have t6:=(HHq.1 _).trans s6
   have HWy:Hid (Below w2.heap.size w2 wy):=HHq.2
   clear HHq s0 s1 s2 s3 s5 s6
   have y1:=World.new_ne wy _ t1
   go_region_held3 (fun w'=>w'.cell? ⟨gv,1,none⟩=some (.int .u64 (b':Int))∧w'.cell? ⟨gv,2,none⟩=some (.int .u64 (c:Int))∧w'.cell? ⟨gv,3,none⟩=some (.int .u64 (d:Int))∧w'.cell? ⟨gv,5,none⟩=some (.int .u64 (f:Int))∧w'.cell? ⟨gv,6,none⟩=some (.int .u64 (g:Int))) (go_keep) (fail)
   clear t1 t2 t3 t5 t6 y1
   have HQ8:Hid (HasQ ((wy.alloc (.cells #[.int .u64 (n0:Int),.int .u64 (a:Int),.int .u64 (b':Int),.int .u64 (c:Int),.int .u64 (n4:Int),.int .u64 (e:Int),.int .u64 (f:Int),.int .u64 (g:Int)] 68)).drew) (.slice (some ⟨wy.heap.size,0,none⟩) 8 8) (jZ (Sha.run ws (k+1) V))∧Below w2.heap.size w2 ((wy.alloc (.cells #[.int .u64 (n0:Int),.int .u64 (a:Int),.int .u64 (b':Int),.int .u64 (c:Int),.int .u64 (n4:Int),.int .u64 (e:Int),.int .u64 (f:Int),.int .u64 (g:Int)] 68)).drew)):=by
    rw [HRN.out]
    exact ⟨pt wy [n0,a,b',c,n4,e,f,g] 68,(HWy.out.alloc HWy.out.size _).trans ⟨rfl,rfl,rfl,Nat.le_refl _,fun _ _=>rfl⟩⟩
   go_wp2_with fail
   go_roundw
   case rel=>exact ⟨k+1,wy.heap.size,8,by omega,by go_num,rfl,HQ8.out.1,HQ8.out.2⟩
   case measure=>simp [intOf];omega
  ·have hkI:¬ (k:Int)<64:=by omega
   obtain rfl:k=64:=by omega
   obtain ⟨R,hR⟩:∃ R,R=Sha.run ws 64 V:=⟨_,rfl⟩
   have HR:Hid (R=Sha.run ws 64 V):=hR
   have hok:vok R:=by rw [hR];exact ey _ (fun n v h=>wJ h) 64 V HH.out.2.2
   have HM:Hid (jZ (Sha.mix V b)=jZ (Sha.plus V R)):=by show _=_;rw [Sha.mix,← HWS.out.1,hR]
   rw [← hR] at HV
   have HVL:Hid ((jZ V).length=8∧(jZ R).length=8∧∀ i,(jZ V).getD i 0<4294967296∧(jZ R).getD i 0<4294967296):=⟨rfl,rfl,fun i=>⟨cx HH.out.2.2 i,cx hok i⟩⟩
   have H3:Hid (HasQ wr (.slice (some ⟨gv,0,none⟩) 8 cv) (jZ R)∧HasQ wr (.slice (some ⟨gh,0,none⟩) 8 ch) (jZ V)∧Below w.heap.size w wr):=⟨HV.out,HH.out.1.below (Below.up H2.out.2.2 HW.out),Below.up H2.out.2.2 HW.out⟩
   clear HV HW hR hok HWS CW H1 H2
   obtain ⟨w3,hw3⟩:∃ w3,w3=wr:=⟨_,rfl⟩
   rw [← hw3] at H3 ⊢
   clear hw3
   go_wp2_with fail
   go_loopw [16,17] (fun ov i wr=>∃ (k:Nat) (o:List Nat),k≤8∧i=.int .i64 k∧Hid (o=(jZ (Sha.plus V R)).take k)∧Hid (qq wr w3.heap.size ov o)∧Hid (Below w3.heap.size w3 wr)) (fun _ i _=>8-(intOf i).toNat)
   case atStart=>exact ⟨0,[],by omega,rfl,rfl,qq.nil _ _,Below.refl _ _⟩
   case round=>
    obtain ⟨k,o,hk,rfl,HOE,HO,HW⟩:=hrel
    by_cases hlt:k<8
    ·have hkI:(k:Int)<8:=by omega
     obtain ⟨oo,oc,rfl⟩:=HO.out.has.form
     obtain ⟨x,hx⟩:∃ x,x=(jZ V).getD k 0:=⟨_,rfl⟩
     obtain ⟨y,hy⟩:∃ y,y=(jZ R).getD k 0:=⟨_,rfl⟩
     have lx:x<4294967296:=by rw [hx];exact (HVL.out.2.2 k).1
     have ly:y<4294967296:=by rw [hy];exact (HVL.out.2.2 k).2
     obtain ⟨z,hz,HZ⟩:∃ z:Nat,Int.tmod ((x:Int)+y) 4294967296=(z:Int)∧Hid (z=(x+y)%4294967296):=⟨(x+y)%4294967296,by rw [Int.tmod_eq_emod_of_nonneg (by omega)];omega,rfl⟩
     have HON:Hid (o++[z]=(jZ (Sha.plus V R)).take (k+1)):=by
      show _=_
      rw [HZ.out,HOE.out,hx,hy];exact nj V R k hlt
     have HOL:Hid (o.length≤8):=by show _≤_;rw [HOE.out];simp;omega
     have u1:IntKind.u64.wrap ((x:Int)+y)=(x:Int)+y:=by rw [IntKind.wrap_u64];omega
     have n8:¬ (8≤k):=by omega
     have qx:wr.cell? ⟨gh,k,none⟩=some (.int .u64 (x:Int)):=by rw [zX (H3.out.2.1.below HW.out) k hlt,hx];rfl
     have qy:wr.cell? ⟨gv,k,none⟩=some (.int .u64 (y:Int)):=by rw [zX (H3.out.1.below HW.out) k hlt,hy];rfl
     have QX:Hid (wr.cell? ⟨gh,k,none⟩=some (.int .u64 (x:Int))∧wr.cell? ⟨gv,k,none⟩=some (.int .u64 (y:Int))):=⟨qx,qy⟩
     clear hx hy qx qy HOE
     go_upto_region 17 with fail
     refine wp_region_any (by kernel_rfl) ?_
     change wpAny _ _ _ _ _ _ _ (World.drew _)
     generalize hw4:World.drew wr=wq
     have HBW:Hid (Below w3.heap.size w3 wq):=by rw [← hw4];exact HW.out.trans ⟨rfl,rfl,rfl,Nat.le_refl _,fun _ _=>rfl⟩
     have HOW:Hid (∀ c:Obj,qq (wq.alloc c) w3.heap.size (.slice oo o.length oc) o):=by rw [← hw4];exact fun c=>(HO.out.block (w':=wr.drew) fun _ _=>rfl).block fun q hq=>heap_alloc_old _ _ hq
     have HCa:Hid (wq.cell? ⟨gh,k,none⟩=some (.int .u64 (x:Int))):=by rw [← hw4];exact QX.out.1
     have HCb:Hid (wq.cell? ⟨gv,k,none⟩=some (.int .u64 (y:Int))):=by rw [← hw4];exact QX.out.2
     clear hw4 HO QX
     refine wT 0 (.slice oo o.length oc) rfl (Or.inl ⟨by kernel_rfl,?_⟩) ?_
     ·intro wz;go_simp
     refine wT 1 (.slice (some ⟨gh,0,none⟩) 8 ch) rfl (Or.inl ⟨by kernel_rfl,?_⟩) ?_
     ·intro wz;go_simp
     refine wT 2 (.int .i64 (k:Int)) rfl (Or.inl ⟨by kernel_rfl,?_⟩) ?_
     ·intro wz;go_simp
     refine wT 3 (.pointer (some ⟨gh,k,none⟩)) rfl (Or.inl ⟨by kernel_rfl,?_⟩) ?_
     ·intro wz;go_simp
     refine wT 5 (.slice (some ⟨gv,0,none⟩) 8 cv) rfl (Or.inl ⟨by kernel_rfl,?_⟩) ?_
     ·intro wz;go_simp
     refine wT 6 (.int .i64 (k:Int)) rfl (Or.inl ⟨by kernel_rfl,?_⟩) ?_
     ·intro wz;go_simp
     refine wT 7 (.pointer (some ⟨gv,k,none⟩)) rfl (Or.inl ⟨by kernel_rfl,?_⟩) ?_
     ·intro wz;go_simp
     simp only [Act.put,sD,sE,sF,sA,sB,sC]
     refine wR [4,8] ?_
     refine kq rfl rfl (.tmp 130) rfl ⟨gh,k,none⟩ rfl (.int .u64 (x:Int)) HCa.out ?_ (kq rfl rfl (.tmp 134) rfl ⟨gv,k,none⟩ rfl (.int .u64 (y:Int)) HCb.out ?_ AllReady.nil)
     ·simp only [Act.put,sD,sE,sF,sA,sB,sC]
      refine wR [8] ?_
      refine kq rfl rfl (.tmp 134) rfl ⟨gv,k,none⟩ rfl (.int .u64 (y:Int)) HCb.out ?_ AllReady.nil
      simp only [Act.put,sD,sE,sF,sA,sB,sC]
      refine wT 9 (.int .u64 ((x:Int)+y)) rfl (Or.inl ⟨by kernel_rfl,?_⟩) ?_
      ·intro wz;go_simp
      refine wT 10 (.int .u64 (z:Int)) rfl (Or.inl ⟨by kernel_rfl,?_⟩) ?_
      ·intro wz;go_simp
      simp only [Act.put,sD,sE,sF,sA,sB,sC]
      refine wR [11] ?_
      refine AllReady.cons rfl (fun K' hK'=>?_) AllReady.nil
      go_simp
      refine hK' _ _ ?_
      clear hK' K'
      refine wR [12] ?_
      refine yz rfl rfl (.tmp 127) (.tmp 138) rfl w3.heap.size (.slice oo o.length oc) wq.heap.size z o rfl rfl (HOW.out _) (by rw [cell_of_row _ _ 0 _ _ _ (heap_alloc_new _ _)];rfl) (by have:=HOL.out;omega) (by have:=HBW.out.size;simp;omega) (fun v' w' ho' hb'=>?_) AllReady.nil
      have R:Hid (qq w' w3.heap.size v' (o++[z])∧Below w3.heap.size w3 w'):=⟨ho',HBW.out.trans (((Below.refl w3.heap.size wq).alloc HBW.out.size _).trans hb')⟩
      clear ho' hb'
      obtain ⟨vo',vc',hv'⟩:=R.out.1.has.form
      subst hv'
      refine wT 13 (.slice vo' (o++[z]).length vc') rfl (Or.inl ⟨by kernel_rfl,?_⟩) ?_
      ·intro wz;go_simp
      refine wpAny_done (by kernel_rfl) ?_ _
      go_simp
      go_wp2_with fail
      go_roundw
      case rel=>exact ⟨k+1,o++[z],by omega,by go_num,HON.out,by have:=R.out.1;rw [List.length_append] at this;exact this,R.out.2⟩
      case measure=>simp [intOf];omega
     ·simp only [Act.put,sD,sE,sF,sA,sB,sC]
      refine wR [4] ?_
      refine kq rfl rfl (.tmp 130) rfl ⟨gh,k,none⟩ rfl (.int .u64 (x:Int)) HCa.out ?_ AllReady.nil
      simp only [Act.put,sD,sE,sF,sA,sB,sC]
      refine wT 9 (.int .u64 ((x:Int)+y)) rfl (Or.inl ⟨by kernel_rfl,?_⟩) ?_
      ·intro wz;go_simp
      refine wT 10 (.int .u64 (z:Int)) rfl (Or.inl ⟨by kernel_rfl,?_⟩) ?_
      ·intro wz;go_simp
      simp only [Act.put,sD,sE,sF,sA,sB,sC]
      refine wR [11] ?_
      refine AllReady.cons rfl (fun K' hK'=>?_) AllReady.nil
      go_simp
      refine hK' _ _ ?_
      clear hK' K'
      refine wR [12] ?_
      refine yz rfl rfl (.tmp 127) (.tmp 138) rfl w3.heap.size (.slice oo o.length oc) wq.heap.size z o rfl rfl (HOW.out _) (by rw [cell_of_row _ _ 0 _ _ _ (heap_alloc_new _ _)];rfl) (by have:=HOL.out;omega) (by have:=HBW.out.size;simp;omega) (fun v' w' ho' hb'=>?_) AllReady.nil
      have R:Hid (qq w' w3.heap.size v' (o++[z])∧Below w3.heap.size w3 w'):=⟨ho',HBW.out.trans (((Below.refl w3.heap.size wq).alloc HBW.out.size _).trans hb')⟩
      clear ho' hb'
      obtain ⟨vo',vc',hv'⟩:=R.out.1.has.form
      subst hv'
      refine wT 13 (.slice vo' (o++[z]).length vc') rfl (Or.inl ⟨by kernel_rfl,?_⟩) ?_
      ·intro wz;go_simp
      refine wpAny_done (by kernel_rfl) ?_ _
      go_simp
      go_wp2_with fail
      go_roundw
      case rel=>exact ⟨k+1,o++[z],by omega,by go_num,HON.out,by have:=R.out.1;rw [List.length_append] at this;exact this,R.out.2⟩
      case measure=>simp [intOf];omega
    ·have hkI:¬ (k:Int)<8:=by omega
     obtain rfl:k=8:=by omega
     obtain ⟨oo,oc,rfl⟩:=HO.out.has.form
     have hoe:o=jZ (Sha.mix V b):=by rw [HOE.out,HM.out];rfl
     have RR:Hid (qq wr w.heap.size (.slice oo o.length oc) (jZ (Sha.mix V b))∧Below w.heap.size w wr):=⟨by rw [← hoe];exact iK HO.out H3.out.2.2.size,Below.up H3.out.2.2 HW.out⟩
     clear hoe HOE HO HW
     go_wp2
     go_ret
     exact ⟨_,rfl,RR.out⟩
end Go.Proofs.YtdeanahpiigonaaGreatDoor.Su
