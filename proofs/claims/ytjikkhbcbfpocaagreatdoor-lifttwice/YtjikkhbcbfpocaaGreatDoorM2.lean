import Derived.Shelf.Small.Bits
import Derived.Test.YtjikkhbcbfpocaaGreatDoorMP
set_option maxRecDepth 100000
set_option maxHeartbeats 2000000
namespace Go.Proofs.YtjikkhbcbfpocaaGreatDoor
open Go.Shelf
def Tryz.lays125_ren:Go.Shelf.Ren:=⟨fun | 125=>186 | 128=>190 | 129=>191 | n=>n,fun | 46=>58 | 3=>3 | 51=>56 | 53=>120 | 4=>4 | 5=>5 | 9=>9 | n=>n,fun | n=>n⟩
theorem Tryz.lays125:Go.Proofs.Lays.n125 Tryz.prog Tryz.lays125_ren:={
 mixed:=by kernel_rfl
 f125:=Tryz.func186.trans (congrArg some (by kernel_rfl))
 f128:=Tryz.func190.trans (congrArg some (by kernel_rfl))
 f129:=Tryz.func191.trans (congrArg some (by kernel_rfl))
 t3:=Tryz.underlying3
 a3:=Tryz.isAgg3
 z3:=Tryz.sizeOf3
 v3:=Tryz.zeroValue3
 t4:=Tryz.underlying4
 a4:=Tryz.isAgg4
 z4:=Tryz.sizeOf4
 v4:=Tryz.zeroValue4
 t5:=Tryz.underlying5
 a5:=Tryz.isAgg5
 z5:=Tryz.sizeOf5
 v5:=Tryz.zeroValue5
 t9:=Tryz.underlying9
 a9:=Tryz.isAgg9
 z9:=Tryz.sizeOf9
 v9:=Tryz.zeroValue9
 t46:=Tryz.underlying58
 a46:=Tryz.isAgg58
 z46:=Tryz.sizeOf58
 v46:=Tryz.zeroValue58
 t51:=Tryz.underlying56
 a51:=Tryz.isAgg56
 z51:=Tryz.sizeOf56
 v51:=Tryz.zeroValue56
 t53:=Tryz.underlying120
 a53:=Tryz.isAgg120
 z53:=Tryz.sizeOf120
 v53:=Tryz.zeroValue120 }
theorem Tryz.bits_Len (x:Int) (w:World) (h0:0≤x) (h1:x≤18446744073709551615):
  Calls Tryz.prog 186 #[.int .u64 x] w fun e w'=>e=.returned (.int .i64 (Lib.bitLen x.toNat))∧w'=w:=Any.bits_Len Tryz.lays125 x w h0 h1
end Go.Proofs.YtjikkhbcbfpocaaGreatDoor
namespace Go.Proofs.YtjikkhbcbfpocaaGreatDoor
open Go.RowKit
theorem dq:∀ (f x:Nat),x<2 ^ f→Lib.bitLenAux f x=if x=0 then 0 else Nat.log2 x+1
  | 0,x,h=>by
    have:x=0:=by simp at h;omega
    subst this;rfl
  | f+1,x,h=>by
    rw [Lib.bitLenAux]
    by_cases h0:x=0
    · rw [if_pos h0,if_pos h0]
    · rw [if_neg h0,if_neg h0,dq f (x/2) (by rw [Nat.pow_succ] at h;omega),Nat.log2_def x]
      by_cases h1:x/2=0
      · rw [if_pos h1,if_neg (by omega)]
      · rw [if_neg h1,if_pos (by omega)];omega
theorem nQ (x:Nat) (h:x≠0) (hx:x<1000000):Lib.bitLen x=Nat.log2 x+1:=by
  unfold Lib.bitLen
  rw [dq 64 x (by omega),if_neg h]
theorem tK (n:Nat) (h2:2≤n) (hn:n≤1000000) (w:World):Calls Tryz.prog 176 #[.int .i64 n] w fun e w'=>e=.returned (.int .i64 (xT n))∧w'=w:=by
  have C:=Tryz.bits_Len ((n-1:Nat):Int) w (by omega) (by omega)
  rw [Int.toNat_natCast,nQ _ (by omega) (by omega)] at C
  have hlog:Nat.log2 (n-1)<20:=by
    refine Nat.lt_of_not_le fun h=>?_
    have:=(Nat.le_log2 (n:=n-1) (k:=20) (by omega)).1 h
    omega
  have hp:(2:Int) ^ Nat.log2 (n-1)=((xT n:Nat):Int):=by unfold xT;push_cast;rfl
  have hpl:xT n<n:=(ae h2).2
  generalize xT n=H at *
  generalize Nat.log2 (n-1)=L at *
  have hc:((n:Int)-1)=((n-1:Nat):Int):=by omega
  go_enter Tryz.func176,Tryz.ntmps176
  have hs:(((L+1:Nat):Int)-1)=(L:Int):=by omega
  go_wp2_with (go_at_call 186;refine C.mono ?_;rintro e w' ⟨rfl,rfl⟩)
  go_ret
  exact ⟨rfl,rfl⟩
def encs (ns:List Nat):List Nat:=(ns.map encN).flatten
theorem pd (ns:List Nat) (k:Nat) (h:k<ns.length):encs (ns.take (k+1))=encs (ns.take k)++encN (ns.getD k 0):=by
  unfold encs
  rw [List.take_add_one,List.map_append,List.flatten_append,gl h,List.getD_eq_getElem?_getD,gl h]
  simp
theorem bR (ns:List Nat) (h:∀ n∈ns,n<18446744073709551616):(encs ns).length≤10*ns.length:=by
  induction ns with
  | nil=>simp [encs]
  | cons a t ih=>
    have h1:=jT (h a (by simp))
    have h2:=ih fun n hn=>h n (by simp [hn])
    unfold encs at h2 ⊢
    rw [List.map_cons,List.flatten_cons,lA,lC]
    omega
theorem zq (w:World) (x:Nat):Su.Owns (w.alloc (.cells #[Su.vb x] 5)) w.heap.size (.slice (some ⟨w.heap.size,0,none⟩) 1 1) [x]:=
  ⟨rfl,.inr ⟨w.heap.size,1,#[Su.vb x],rfl,Nat.le_refl _,World.alloc_heap_new w _,Nat.le_refl _,by decide,rfl,rfl⟩⟩
theorem gN (x:Nat) (ns:List Nat) (K:Nat) (w:World) (hc:∀ i,i<ns.length→w.cell? ⟨K,i,none⟩=some (.int .i64 (ns.getD i 0:Nat))) (hn:∀ n∈ns,n<9223372036854775808) (hl:ns.length≤1000):
    Calls Tryz.prog 174 #[.int .u8 x,.slice (some ⟨K,0,none⟩) ns.length ns.length] w fun e w'=>∃ v,e=.returned v∧Su.Owns w' w.heap.size v (x::encs ns)∧G w w':=by
  have HC:=hid hc
  obtain ⟨n,hnl⟩:∃ n,ns.length=n:=⟨_,rfl⟩
  rw [hnl] at HC ⊢
  have HN:=hid (And.intro hn (And.intro hnl hl))
  have H1:=hid (And.intro (zq w x) (G.alloc w (.cells #[Su.vb x] 5)))
  have hn1000:n≤1000:=by omega
  clear hc hn hnl hl
  go_enter Tryz.func174,Tryz.ntmps174
  go_upto_region 2 with fail
  generalize hw1:w.alloc (.cells #[.int .u8 (x:Int)] 5)=w1
  rw [show (Obj.cells #[Su.vb x] 5:Obj)=.cells #[.int .u8 (x:Int)] 5 from rfl,hw1] at H1
  clear hw1
  have HC1:Hid (∀ wr,G w wr→∀ i,i<n→wr.cell? ⟨K,i,none⟩=some (.int .i64 (ns.getD i 0:Nat))):=fun wr hg i hi=>hg.cell (HC.o i hi)
  clear HC
  go_wp2_with fail
  go_loopw [5,12] (fun b i wr=>∃ k:Nat,i=.int .i64 k∧k≤n∧Hid (Su.Owns wr w.heap.size b (x::encs (ns.take k))∧G w wr)) (fun _ i _=>n-iOf i)
  case atStart=>exact ⟨0,rfl,by omega,H1.o⟩
  case round=>
    clear H1
    obtain ⟨k,rfl,hk,HO⟩:=hrel
    by_cases hkn:k<n
    · have hkI:(k:Int)<n:=by omega
      obtain ⟨hn1,hn2,hn3⟩:=HN.o
      have hcell:=HC1.o wr HO.o.2 k hkn
      have hb:ns.getD k 0<9223372036854775808:=by
        rw [List.getD_eq_getElem?_getD,gl (by omega)]
        exact hn1 _ (List.getElem_mem _)
      have hlen:(x::encs (ns.take k)).length≤1000000:=by
        have:=bR (ns.take k) fun m hm=>Nat.lt_trans (hn1 m (List.mem_of_mem_take hm)) (by decide)
        rw [List.length_take] at this
        simp only [lC]
        omega
      have HS:=hid (pd ns k (by omega))
      obtain ⟨m,hm⟩:∃ m,ns.getD k 0=m:=⟨_,rfl⟩
      rw [hm] at hcell hb HS
      have HL:=hid hlen
      clear hn1 hn2 hn3 hlen hm
      have hle:=HO.o.2.size
      have HH:=hid (Su.Owns.has HO.o.1)
      go_wp2_with (go_at_call 84;refine (fy u5 (x::encs (ns.take k)) m wr HH.o (by omega) HL.o).mono ?_;rintro e w2 ⟨v,rfl,h1,h2⟩;have HO2:Hid (Su.Owns w2 w.heap.size v (x::encs (ns.take (k+1)))∧G w w2):=⟨by rw [HS.o];exact Su.Owns.mono h1 hle,HO.o.2.trans h2⟩;clear h1 h2)
      go_roundw
      case rel=>exact ⟨k+1,by go_num,by omega,HO2.o⟩
      case measure=>simp;omega
    · have hkI:¬ (k:Int)<n:=by omega
      have hkn2:k=n:=by omega
      go_wp2_with fail
      go_ret
      have:=HN.o.2.1
      rw [List.take_of_length_le (by omega)] at HO
      exact ⟨_,rfl,HO.o⟩
theorem xS (x:Nat) (ns:List Nat) (xi:Int) (n K:Nat) (w:World) (hxi:xi=(x:Int)) (hnn:n=ns.length) (hc:∀ i,i<ns.length→w.cell? ⟨K,i,none⟩=some (.int .i64 (ns.getD i 0:Nat))) (hn:∀ n∈ns,n<9223372036854775808) (hl:ns.length≤1000):
    Calls Tryz.prog 174 #[.int .u8 xi,.slice (some ⟨K,0,none⟩) n n] w fun e w'=>∃ v,e=.returned v∧Su.Owns w' w.heap.size v (x::encs ns)∧G w w':=by
  subst hxi hnn
  exact gN x ns K w hc hn hl
theorem uk {w:World} {K a b:Nat} (h:Lies w K 0 #[.int .i64 (a:Int),.int .i64 (b:Int)]):∀ i,i<[a,b].length→w.cell? ⟨K,i,none⟩=some (.int .i64 ([a,b].getD i 0:Nat))
  | 0,_=>jB h 0 _ rfl
  | 1,_=>jB h 1 _ rfl
  | i+2,hi=>by simp at hi;omega
theorem cells1 {w:World} {K a:Nat} (h:Lies w K 0 #[.int .i64 (a:Int)]):∀ i,i<[a].length→w.cell? ⟨K,i,none⟩=some (.int .i64 ([a].getD i 0:Nat))
  | 0,_=>jB h 0 _ rfl
  | i+1,hi=>by simp at hi
theorem vW (a b:Nat):encs [a,b]=encN a++encN b:=by simp [encs]
theorem vY (a:Nat):encs [a]=encN a:=by simp [encs]
open Go.Shelf
attribute [local go_sem] Oper.semAt_some
section
variable {s n:Nat} {md:Region.Mode} {ops:Array Oper} {Q:Exit→Act→World→Prop}
def clo (md:Region.Mode) (ops:Array Oper) (i:Nat):Nat→Array Bool→Array Bool
 | 0,l=>l
 | k+1,l=>clo md ops i k ((List.range ops.size).foldl (fun l j=>if j !=i&&(match ops[j]? with | some o=>o.after.all fun e=>!Region.binds md e||l.getD e.on false | none=>false) then l.setIfInBounds j true else l) l)
def clOk (md:Region.Mode) (ops:Array Oper) (s i:Nat) (listed cl:Array Bool):Bool:=
 (!cl.getD s false)&&(List.range ops.size).all (fun j=>j==i||(match ops[j]? with | some o=>!(o.after.all fun e=>!Region.binds md e||cl.getD e.on false)||cl.getD j false | none=>true))&&(List.range listed.size).all (fun j=>!listed.getD j false||cl.getD j false)
theorem pf {i:Nat} {listed cl:Array Bool} (h:clOk md ops s i listed cl=true):cl.getD s false=false∧(∀ j oj,ops[j]?=some oj→j≠i→(∀ e∈oj.after,Region.binds md e=true→cl.getD e.on false=true)→cl.getD j false=true)∧∀ j,listed.getD j false=true→cl.getD j false=true:=by
 simp only [clOk,Bool.and_eq_true,Bool.not_eq_true',List.all_eq_true,List.mem_range] at h
 obtain ⟨⟨h1,h2⟩,h3⟩:=h
 refine ⟨h1,fun j oj hj hji ha=>?_,fun j hj=>?_⟩
 ·have hlt:=(gS hj)
  have:=h2 j hlt
  rw [hj] at this
  simp only [Bool.or_eq_true,beq_iff_eq,Bool.not_eq_true'] at this
  rcases this with this | this | this
  ·exact absurd this hji
  ·exfalso
   have ht:(oj.after.all fun e=>!Region.binds md e||cl.getD e.on false)=true:=by
    rw [Array.all_eq_true_iff_forall_mem]
    intro e he
    cases hb:Region.binds md e with
    | false=>rfl
    | true=>simp [ha e he hb]
   rw [ht] at this
   cases this
  ·exact this
 ·by_cases hlt:j<listed.size
  ·have:=h3 j hlt
   rw [hj] at this
   simpa using this
  ·simp [Array.getD,hlt] at hj
theorem nR {F:Fence} (hF:∀ f,F.fn f) (hn:F.depth.isSome=true→1≤n) (hnd:qM ops=true) {i:Nat} {oi:Oper} {v:Value} (hi:ops[i]?=some oi) (hsel:∀ (j:Nat) (o:Oper) cs b,ops[j]?=some o→o.op≠.select cs b)
  (hQ:∀ c a w,Q (.panic c) (a.put oi.dst v) w→Q (.panic c) a w) (his:i≠s) (cl:Array Bool) (hcs:cl.getD s false=false) (hcl:∀ j oj,ops[j]?=some oj→j≠i→(∀ e∈oj.after,Region.binds md e=true→cl.getD e.on false=true)→cl.getD j false=true):
  ∀ (k:Nat) (listed:Array Bool) (a:Act) (w0:World),(∀ j,listed.getD j false=true→cl.getD j false=true)→(∀ j oj,ops[j]?=some oj→j≠i→listed.getD j true=false→(∀ e∈oj.after,Region.binds md e=true→e.on≠i)→oi.apart ops oj=true)→
   i∈Region.ready md ops listed→qc F n ops w0 oi v a→wpX s F n md ops Q k (listed.setIfInBounds i true) (a.put oi.dst v) w0→wpX s F n md ops Q (k+1) listed a w0:=by
 intro k
 induction k with
 | zero=>
  intro listed a w0 _ _ hr hy H w hg
  refine ⟨fun e=>(by rw [e] at hr;cases hr),fun j hj=>?_⟩
  by_cases hji:j=i
  ·subst hji
   exact hy.wpOpIn hF hn hi (jX hnd hi) hg fun w' hg'=>⟨fun e=>absurd e his,fun _=>⟨hg',fun x hx=>H x ((hg.trans hg').trans hx)⟩⟩
  ·have:=ready_mono hj hji
   rw [(H w hg).1] at this
   cases this
 | succ k ih=>
  intro listed a w0 hsub hfree hr hy H w hg
  refine ⟨fun e=>(by rw [e] at hr;cases hr),fun j hj=>?_⟩
  by_cases hji:j=i
  ·subst hji
   exact hy.wpOpIn hF hn hi (jX hnd hi) hg fun w' hg'=>⟨fun e=>absurd e his,fun _=>⟨hg',H.grow (hg.trans hg')⟩⟩
  ·obtain ⟨hun,oj,hoj,hall⟩:=mem_ready.1 hj
   have hno:∀ e∈oj.after,Region.binds md e=true→e.on≠i:=fun e he hb heq=>by
    have h1:=hall e he hb
    rw [heq] at h1
    have h0:=(mem_ready.1 hr).1
    by_cases hlt:i<listed.size
    ·simp [Array.getD,hlt] at h0 h1
     rw [h0] at h1
     cases h1
    ·simp [Array.getD,hlt] at h1
   have hcj:=hcl j oj hoj hji fun e he hb=>hsub _ (hall e he hb)
   have hjs:j≠s:=fun e=>by rw [e,hcs] at hcj;cases hcj
   have h2:=ye hoj (jX hnd hoj) (hfree j oj hoj hji hun hno) (fun cs b=>hsel i oi cs b hi) (fun cs b=>hsel j oj cs b hoj) hQ hy ((H w hg).2 j (ready_mono hj hji))
   refine wpOpIn_mono (fun a' w' h3=>⟨fun e=>absurd e hjs,fun _=>⟨(h3.2.2 hjs).1,ih (listed.setIfInBounds j true) a' w' (fun l hl=>?_) ?_ (ready_mono hr (Ne.symm hji)) (h3.1.mono (hg.trans (h3.2.2 hjs).1)) ?_⟩⟩) h2
   ·by_cases hjl:j=l
    ·subst hjl;exact hcj
    ·rw [getD_set_ne false hjl] at hl
     exact hsub l hl
   ·intro l ol hl hli hunl hnol
    refine hfree l ol hl hli ?_ hnol
    by_cases hjl:j=l
    ·subst hjl;exact hun
    ·rwa [getD_set_ne true hjl] at hunl
   ·rw [Array.setIfInBounds_comm _ _ hji]
    exact (h3.2.2 hjs).2
def okT (md:Region.Mode) (ops:Array Oper) (s:Nat) (listed:Array Bool) (i d:Nat) (oi:Oper) (t:Array Value) (b:Bool):Bool:=
 oi.dst==some d&&qM ops&&Region.noSelect ops&&Region.free md ops listed i&&(Region.ready md ops listed).contains i&&i !=s&&clOk md ops s i listed (clo md ops i ops.size listed)&&(Region.wanted oi (yielded ops t)==b)
theorem mH {listed:Array Bool} {i d:Nat} {oi:Oper} {t:Array Value} {b:Bool} (h:okT md ops s listed i d oi t b=true):oi.dst=some d∧qM ops=true∧Region.noSelect ops=true∧Region.free md ops listed i=true∧(Region.ready md ops listed).contains i=true∧i≠s∧clOk md ops s i listed (clo md ops i ops.size listed)=true∧Region.wanted oi (yielded ops t)=b:=by
 simp only [okT,Bool.and_eq_true,beq_iff_eq,bne_iff_ne] at h
 obtain ⟨⟨⟨⟨⟨⟨⟨h1,h2⟩,h3⟩,h4⟩,h5⟩,h6⟩,h7⟩,h8⟩:=h
 exact ⟨h1,h2,h3,h4,h5,h6,h7,h8⟩
theorem pg {F:Fence} (hL:Lets F n) {i d:Nat} {v:Value} {oi:Oper} {k:Nat} {listed:Array Bool} {a:Act} {w0:World} {b:Bool} (hi:ops[i]?=some oi) (hk:okT md ops s listed i d oi a.tmps b=true)
  (hQ:∀ c a w,Q (.panic c) (a.put (some d) v) w→Q (.panic c) a w) (hy:qc F n ops w0 oi v a) (h:wpX s F n md ops Q k (listed.setIfInBounds i true) (a.put (some d) v) w0):wpX s F n md ops Q (k+1) listed a w0:=by
 obtain ⟨h1,h2,h3,h4,h5,h6,h7,h8⟩:=mH hk
 obtain ⟨g1,g2,g3⟩:=pf h7
 exact nR hL.fn hL.dp h2 hi (Region.noSelect_spec h3) (by rw [h1];exact hQ) h6 _ g1 g2 k listed a w0 g3 (Region.free_spec hi h4) (by simpa using h5) hy (by rw [h1];exact h)
theorem tX (i d:Nat) (v:Value) {oi:Oper} {k:Nat} {listed l':Array Bool} {a a':Act} {w0:World} (hy:∀ w,G w0 w→(execOp a.eval oi).run Tryz.prog w=.ok (.value v) w) (h:wpX s Fence.wide n md ops Q k l' a' w0) (hi:ops[i]?=some oi:=by exact rfl) (hk:okT md ops s listed i d oi a.tmps true=true:=by kernel_rfl) (hQ:∀ c a w,Q (.panic c) (a.put (some d) v) w→Q (.panic c) a w:=by exact fun _ _ _ h=>h)
  (hl:listed.setIfInBounds i true=l':=by (first | (simp only [Act.put,sA,sB,sC]<;>exact rfl) | exact rfl)) (hp:a.put (some d) v=a':=by (first | (simp only [Act.put,sA,sB,sC]<;>exact rfl) | exact rfl)):wpX s Fence.wide n md ops Q (k+1) listed a w0:=by
 subst hl hp
 exact pg jE hi hk hQ (.inl ⟨(mH hk).2.2.2.2.2.2.2,fun w hg=>.inl (hy w hg)⟩) h
def okW (ops:Array Oper) (s i d:Nat) (oi:Oper) (t:Array Value):Bool:=oi.dst==some d&&decide (i≠s)&&qM ops&&Region.wanted oi (yielded ops t)
theorem mJ {i d:Nat} {oi:Oper} {t:Array Value} (h:okW ops s i d oi t=true):oi.dst=some d∧i≠s∧qM ops=true∧Region.wanted oi (yielded ops t)=true:=by
 simp only [okW,Bool.and_eq_true,beq_iff_eq,decide_eq_true_eq] at h
 obtain ⟨⟨⟨h1,h2⟩,h3⟩,h4⟩:=h
 exact ⟨h1,h2,h3,h4⟩
theorem vX (i d:Nat) (v:Value) (w':World) {oi:Oper} {k:Nat} {listed:Array Bool} {a:Act} {w:World} (hi:ops[i]?=some oi) (hk:okW ops s i d oi a.tmps=true)
  (hx:(execOp a.eval oi).run Tryz.prog w=.ok (.value v) w') (hg:G w w') (h:wpX s Fence.wide n md ops Q k (listed.setIfInBounds i true) (a.put (some d) v) w'):AllX s Fence.wide n md ops Q k listed a w [i]:=by
 obtain ⟨h1,h2,h3,h4⟩:=mJ hk
 exact AllX.value jE i d v w' hi h1 h2 h3 h4 hx hg h AllX.nil
theorem kX (i d:Nat) {oi:Oper} {k:Nat} {listed:Array Bool} {a:Act} {w:World} (f:FuncId) (args:Array Value) (hi:ops[i]?=some oi) (hk:okW ops s i d oi a.tmps=true)
  (hx:(execOp a.eval oi).run Tryz.prog w=.ok (.enter f args) w) (hc:CallsIn Fence.wide (n-1) Tryz.prog f args w fun e w'=>∃ v,e=.returned v∧G w w'∧wpX s Fence.wide n md ops Q k (listed.setIfInBounds i true) (a.put (some d) v) w'):AllX s Fence.wide n md ops Q k listed a w [i]:=by
 obtain ⟨h1,h2,h3,h4⟩:=mJ hk
 exact AllX.call jE i d f args hi h1 h2 h3 h4 hx hc AllX.nil
theorem appA (i d:Nat) {oi:Oper} {k:Nat} {listed:Array Bool} {a:Act} {w:World} (s x:Operand) (hi:ops[i]?=some oi) (hd:oi.dst=some d) (ho:oi.op=.call { callee:=.builtin .append,args:=#[s,x],argTypes:=#[35,35] }) (hr:Region.ready md ops listed=[i]) (hw:Region.wanted oi (yielded ops a.tmps)=true)
  (lo:Nat) (v vx:Value) (m l:List Nat) (hs:a.eval s=v) (hx:a.eval x=vx) (hown:Su.Owns w lo v m) (hhas:Su.Has w vx l) (hlen:m.length+l.length≤16777216) (hb:lo≤w.heap.size)
  (h:∀ v' w',Su.Owns w' lo v' (m++l)→w.grownBy w' v.ownBlock→(v'.ownBlock=v.ownBlock∨v'.ownBlock=some w.heap.size)→wpAnyIn Fence.wide n Tryz.prog md ops Q k (listed.setIfInBounds i true) (a.put (some d) v') w'):wpAnyIn Fence.wide n Tryz.prog md ops Q (k+1) listed a w:=by
 obtain ⟨v',w',h0,h1,h2,h3⟩:=xr (o:=oi) (a:=a) s x ho lo v vx m l w hs hx hown hhas hlen hb
 refine wpAnyIn_ready hr (by simp) ?_
 exact qS i d v' w' hi hd hw h0 (h v' w' h1 h2 h3) AllReadyIn.nil
end
theorem gO {w:World} {g o:Nat} {c:Array Value} (hl:Lies w g 0 c) (p:List Nat) (hp:p.length=32) (hc:∀ j x,(p.map Su.vb)[j]?=some x→c[o+j]?=some x):Su.Has w (.slice (some ⟨g,o,none⟩) 32 32) p:=by
 have:=ly (w:=w) (g:=g) (o:=o) (p:=p) fun j u hj=>jB hl (o+j) u (hc j u hj)
 rw [hp] at this
 exact this
theorem tL (v:Vd):∀ j x,(v.sum.map Su.vb)[j]?=some x→(vx v).toArray[3+j]?=some x:=fun j x h=>by
 rw [List.getElem?_toArray,show 3+j=(j+1+1)+1 by omega]
 exact h
theorem ph (v:Vd) (cnt:Nat) (top:List Nat) (w:World) (ht:top.length=32) (hm:0≤v.mode∧v.mode<9223372036854775808) (hs:0≤v.size∧v.size<9223372036854775808) (hc:cnt<9223372036854775808):
  Calls Tryz.prog 154 #[.agg (vx v).toArray,.int .i64 cnt,.agg (top.map Su.vb).toArray] w fun e w'=>∃ u,e=.returned u∧Su.Owns w' w.heap.size u (ownT v cnt top)∧G w w':=by
 obtain ⟨B,hB⟩:∃ B,w.heap.size=B:=⟨_,rfl⟩
 obtain ⟨w1,hw1⟩:∃ w1,w1=(w.alloc (.cells (vx v).toArray 24)).alloc (.cells (top.map Su.vb).toArray 22):=⟨_,rfl⟩
 have H1:Hid (G w w1∧Lies w1 B 0 (vx v).toArray∧Lies w1 (B+1) 0 (top.map Su.vb).toArray∧w1.heap.size=B+2):=by
  rw [hw1,← hB]
  refine ⟨(G.alloc _ _).trans (G.alloc _ _),(G.alloc _ _).lies (jW w _ 24),?_,by simp⟩
  have:=jW (w.alloc (.cells (vx v).toArray 24)) (top.map Su.vb).toArray 22
  rwa [World.size_alloc] at this
 have HX:Hid ((vx v).toArray.size=35∧(top.map Su.vb).toArray.size=32):=⟨by simp [je],by simp [ht]⟩
 have c0:(vx v).toArray[0]?=some (.int .i64 v.kind):=by simp [vx]
 have c1:(vx v).toArray[1]?=some (.int .i64 v.mode):=by simp [vx]
 have c2:(vx v).toArray[2]?=some (.int .i64 v.size):=by simp [vx]
 have HC:=hid (And.intro c0 (And.intro c1 c2))
 have HS:Hid (∀ W,G w1 W→Su.Has W (.slice (some ⟨B,3,none⟩) 32 32) v.sum∧Su.Has W (.slice (some ⟨B+1,0,none⟩) 32 32) top):=fun W hg=>
  ⟨gO (hg.lies H1.o.2.1) v.sum v.len (tL v),gO (hg.lies H1.o.2.2.1) top ht (fun j x h=>by rw [Nat.zero_add];simpa using h)⟩
 clear c0 c1 c2
 have q0:=jB H1.o.2.1 0 _ HC.o.1
 obtain ⟨kd,hkd⟩:∃ kd,v.kind=kd:=⟨_,rfl⟩
 rw [hkd] at q0
 rw [hw1] at q0
 obtain ⟨mo,hmo⟩:∃ mo:Nat,v.mode=mo:=⟨v.mode.toNat,by omega⟩
 obtain ⟨sz,hsz⟩:∃ sz:Nat,v.size=sz:=⟨v.size.toNat,by omega⟩
 have HT:Hid (ownT v cnt top=if kd=2 then 70::(encN mo++(encN sz++v.sum)) else if kd=3 then 76::(encN sz++v.sum) else 68::(encN mo++(encN cnt++top))):=by show _=_;unfold ownT;rw [hkd,hmo,hsz];rfl
 rw [hmo,hsz] at HC
 have HB:Hid (mo<9223372036854775808∧sz<9223372036854775808∧cnt<9223372036854775808∧v.sum.length=32∧top.length=32∧w.heap.size=B):=⟨by omega,by omega,hc,v.len,ht,hB⟩
 generalize ownT v cnt top=OT at *
 generalize v.sum=SM at *
 generalize (vx v).toArray=X at *
 generalize (top.map Su.vb).toArray=TX at *
 clear hm hs hc ht hmo hsz hkd
 by_cases hk2:kd=2
 ·subst hk2
  refine (callsIn_wide (n:=3)).1 ?_
  refine callsIn_of_wp_marks Tryz.func154 rfl trivial (Go.wpIn_mono (Q:=RetM Tryz.f154 _) ?_ RetM.post) rfl
  simp only [Tryz.ntmps154,List.size_toArray,lC,lN,Nat.reduceAdd,Nat.reduceSub,Array.replicate_succ,Array.replicate_zero,List.push_toArray,List.append_toArray,List.nil_append,List.cons_append]
  gi_wp2_with fail
  rw [← hw1]
  refine qj 8 ?_
  have HD:Hid (G w1 w1.drew):=G.drew w1
  generalize w1.drew=w2 at *
  refine tX 0 11 (.pointer (some ⟨B,1,none⟩)) (fun wz hz=>?_) ?_
  ·go_simp
  refine tX 1 12 (.int .i64 mo) (fun wz hz=>?_) ?_
  ·have y:=(HD.o.trans hz).cell (jB H1.o.2.1 1 _ HC.o.2.1);go_simp
  refine tX 2 13 (.pointer (some ⟨B,2,none⟩)) (fun wz hz=>?_) ?_
  ·go_simp
  refine tX 3 14 (.int .i64 sz) (fun wz hz=>?_) ?_
  ·have y:=(HD.o.trans hz).cell (jB H1.o.2.1 2 _ HC.o.2.2);go_simp
  refine tX 6 17 (.pointer (some ⟨B,3,none⟩)) (fun wz hz=>?_) ?_
  ·go_simp
  refine tX 7 18 (.slice (some ⟨B,3,none⟩) 32 32) (fun wz hz=>?_) ?_
  ·have y:=zA B 3 wz;go_simp
  refine ko [4] (by kernel_rfl) (by simp) fun w3 hg3=>?_
  refine vX 4 15 (.slice (some ⟨w3.heap.size,0,none⟩) 2 2) (w3.alloc (.cells #[.int .i64 mo,.int .i64 sz] 3)) rfl (by kernel_rfl) (by go_simp) (G.alloc _ _) ?_
  try simp only [Act.put,sA,sB,sC]
  refine ko [5] (by kernel_rfl) (by simp) fun w4 hg4=>?_
  refine kX 5 16 174 #[.int .u8 70,.slice (some ⟨w3.heap.size,0,none⟩) 2 2] rfl (by kernel_rfl) (by go_simp) ((callsIn_wide.2 (xS 70 [mo,sz] _ _ w3.heap.size w4 rfl rfl (uk (hg4.lies (jW w3 _ 3))) (by simp;have:=HB.o;omega) (by simp))).mono ?_)
  rintro e w5 ⟨u8,rfl,h8,hg5⟩
  refine ⟨_,rfl,hg5,?_⟩
  try simp only [Act.put,sA,sB,sC]
  refine dL (by kernel_rfl) fun w9 hg9=>?_
  have hz9:G w1 w9:=(((HD.o.trans hg3).trans (G.alloc _ _)).trans hg4).trans (hg5.trans hg9)
  have hz4:G w1 w4:=((HD.o.trans hg3).trans (G.alloc _ _)).trans hg4
  have hBB:=HB.o.2.2.2.2.2
  have h8':Su.Owns w9 B u8 (70::encs [mo,sz]):=Su.Owns.mono (Su.Owns.below h8 hg9 (Nat.le_refl _)) (by have:=(H1.o.1.trans hz4).size;omega)
  have hle:(70::encs [mo,sz]).length+SM.length≤16777216:=by have:(encs [mo,sz]).length≤20:=bR [mo,sz] (by simp;have:=HB.o;omega);have:=HB.o;rw [lC];omega
  have hBs:B≤w9.heap.size:=by have:=(H1.o.1.trans hz9).size;omega
  have hown:∀ k,u8.ownBlock=some k→B≤k:=fun k hk=>(Su.Owns.lt h8' k hk).1
  refine appA 8 19 (.tmp 16) (.tmp 18) rfl rfl rfl (by kernel_rfl) (by kernel_rfl) B u8 _ _ _ rfl rfl h8' (HS.o w9 hz9).1 hle hBs fun v' w' h1 h2 _=>?_
  try simp only [Act.put,sA,sB,sC]
  refine rI [9] ?_
  refine qS 9 6 (v') (w') rfl rfl (by kernel_rfl) (rfl) ?_ AllReadyIn.nil
  try simp only [Act.put,sA,sB,sC]
  refine dI ?_
  have HF:Hid (Su.Owns w' w.heap.size v' OT∧G w w'):=by
   refine ⟨?_,Below.trans (B:=w.heap.size) (H1.o.1.trans hz9) ((Below.refl _ _).grown h2 (by omega) (fun k hk=>by have:=hown k hk;omega))⟩
   rw [HT.o,hBB]
   simpa [vY,vW] using h1
  clear hown hBs hle h8' hBB hz4 hz9 h8 h1 h2
  gi_wp2_with fail
  exact ⟨_,results_tmp rfl _ _ _,v',rfl,HF.o⟩
 by_cases hk3:kd=3
 ·subst hk3
  refine (callsIn_wide (n:=3)).1 ?_
  refine callsIn_of_wp_marks Tryz.func154 rfl trivial (Go.wpIn_mono (Q:=RetM Tryz.f154 _) ?_ RetM.post) rfl
  simp only [Tryz.ntmps154,List.size_toArray,lC,lN,Nat.reduceAdd,Nat.reduceSub,Array.replicate_succ,Array.replicate_zero,List.push_toArray,List.append_toArray,List.nil_append,List.cons_append]
  gi_wp2_with fail
  rw [← hw1]
  refine qj 6 ?_
  have HD:Hid (G w1 w1.drew):=G.drew w1
  generalize w1.drew=w2 at *
  refine tX 0 22 (.pointer (some ⟨B,2,none⟩)) (fun wz hz=>?_) ?_
  ·go_simp
  refine tX 1 23 (.int .i64 sz) (fun wz hz=>?_) ?_
  ·have y:=(HD.o.trans hz).cell (jB H1.o.2.1 2 _ HC.o.2.2);go_simp
  refine tX 4 26 (.pointer (some ⟨B,3,none⟩)) (fun wz hz=>?_) ?_
  ·go_simp
  refine tX 5 27 (.slice (some ⟨B,3,none⟩) 32 32) (fun wz hz=>?_) ?_
  ·have y:=zA B 3 wz;go_simp
  refine ko [2] (by kernel_rfl) (by simp) fun w3 hg3=>?_
  refine vX 2 24 (.slice (some ⟨w3.heap.size,0,none⟩) 1 1) (w3.alloc (.cells #[.int .i64 sz] 3)) rfl (by kernel_rfl) (by go_simp) (G.alloc _ _) ?_
  try simp only [Act.put,sA,sB,sC]
  refine ko [3] (by kernel_rfl) (by simp) fun w4 hg4=>?_
  refine kX 3 25 174 #[.int .u8 76,.slice (some ⟨w3.heap.size,0,none⟩) 1 1] rfl (by kernel_rfl) (by go_simp) ((callsIn_wide.2 (xS 76 [sz] _ _ w3.heap.size w4 rfl rfl (cells1 (hg4.lies (jW w3 _ 3))) (by simp;have:=HB.o;omega) (by simp))).mono ?_)
  rintro e w5 ⟨u8,rfl,h8,hg5⟩
  refine ⟨_,rfl,hg5,?_⟩
  try simp only [Act.put,sA,sB,sC]
  refine dL (by kernel_rfl) fun w9 hg9=>?_
  have hz9:G w1 w9:=(((HD.o.trans hg3).trans (G.alloc _ _)).trans hg4).trans (hg5.trans hg9)
  have hz4:G w1 w4:=((HD.o.trans hg3).trans (G.alloc _ _)).trans hg4
  have hBB:=HB.o.2.2.2.2.2
  have h8':Su.Owns w9 B u8 (76::encs [sz]):=Su.Owns.mono (Su.Owns.below h8 hg9 (Nat.le_refl _)) (by have:=(H1.o.1.trans hz4).size;omega)
  have hle:(76::encs [sz]).length+SM.length≤16777216:=by have:(encs [sz]).length≤10:=bR [sz] (by simp;have:=HB.o;omega);have:=HB.o;rw [lC];omega
  have hBs:B≤w9.heap.size:=by have:=(H1.o.1.trans hz9).size;omega
  have hown:∀ k,u8.ownBlock=some k→B≤k:=fun k hk=>(Su.Owns.lt h8' k hk).1
  refine appA 6 28 (.tmp 25) (.tmp 27) rfl rfl rfl (by kernel_rfl) (by kernel_rfl) B u8 _ _ _ rfl rfl h8' (HS.o w9 hz9).1 hle hBs fun v' w' h1 h2 _=>?_
  try simp only [Act.put,sA,sB,sC]
  refine rI [7] ?_
  refine qS 7 6 (v') (w') rfl rfl (by kernel_rfl) (rfl) ?_ AllReadyIn.nil
  try simp only [Act.put,sA,sB,sC]
  refine dI ?_
  have HF:Hid (Su.Owns w' w.heap.size v' OT∧G w w'):=by
   refine ⟨?_,Below.trans (B:=w.heap.size) (H1.o.1.trans hz9) ((Below.refl _ _).grown h2 (by omega) (fun k hk=>by have:=hown k hk;omega))⟩
   rw [HT.o,hBB]
   simpa [vY,vW] using h1
  clear hown hBs hle h8' hBB hz4 hz9 h8 h1 h2
  gi_wp2_with fail
  exact ⟨_,results_tmp rfl _ _ _,v',rfl,HF.o⟩
 ·have hk2b:(kd==2)=false:=by simpa using hk2
  have hk3b:(kd==3)=false:=by simpa using hk3
  rw [if_neg hk2,if_neg hk3] at HT
  clear hk2 hk3
  refine (callsIn_wide (n:=3)).1 ?_
  refine callsIn_of_wp_marks Tryz.func154 rfl trivial (Go.wpIn_mono (Q:=RetM Tryz.f154 _) ?_ RetM.post) rfl
  simp only [Tryz.ntmps154,List.size_toArray,lC,lN,Nat.reduceAdd,Nat.reduceSub,Array.replicate_succ,Array.replicate_zero,List.push_toArray,List.append_toArray,List.nil_append,List.cons_append]
  gi_wp2_with fail
  rw [← hw1]
  refine qj 6 ?_
  have HD:Hid (G w1 w1.drew):=G.drew w1
  generalize w1.drew=w2 at *
  refine tX 0 29 (.pointer (some ⟨B,1,none⟩)) (fun wz hz=>?_) ?_
  ·go_simp
  refine tX 1 30 (.int .i64 mo) (fun wz hz=>?_) ?_
  ·have y:=(HD.o.trans hz).cell (jB H1.o.2.1 1 _ HC.o.2.1);go_simp
  refine tX 2 31 (.int .i64 cnt) (fun wz hz=>?_) ?_
  ·rfl
  refine tX 5 34 (.slice (some ⟨B+1,0,none⟩) 32 32) (fun wz hz=>?_) ?_
  ·have y:=zA (B+1) 0 wz;go_simp
  refine ko [3] (by kernel_rfl) (by simp) fun w3 hg3=>?_
  refine vX 3 32 (.slice (some ⟨w3.heap.size,0,none⟩) 2 2) (w3.alloc (.cells #[.int .i64 mo,.int .i64 cnt] 3)) rfl (by kernel_rfl) (by go_simp) (G.alloc _ _) ?_
  try simp only [Act.put,sA,sB,sC]
  refine ko [4] (by kernel_rfl) (by simp) fun w4 hg4=>?_
  refine kX 4 33 174 #[.int .u8 68,.slice (some ⟨w3.heap.size,0,none⟩) 2 2] rfl (by kernel_rfl) (by go_simp) ((callsIn_wide.2 (xS 68 [mo,cnt] _ _ w3.heap.size w4 rfl rfl (uk (hg4.lies (jW w3 _ 3))) (by simp;have:=HB.o;omega) (by simp))).mono ?_)
  rintro e w5 ⟨u8,rfl,h8,hg5⟩
  refine ⟨_,rfl,hg5,?_⟩
  try simp only [Act.put,sA,sB,sC]
  refine dL (by kernel_rfl) fun w9 hg9=>?_
  have hz9:G w1 w9:=(((HD.o.trans hg3).trans (G.alloc _ _)).trans hg4).trans (hg5.trans hg9)
  have hz4:G w1 w4:=((HD.o.trans hg3).trans (G.alloc _ _)).trans hg4
  have hBB:=HB.o.2.2.2.2.2
  have h8':Su.Owns w9 B u8 (68::encs [mo,cnt]):=Su.Owns.mono (Su.Owns.below h8 hg9 (Nat.le_refl _)) (by have:=(H1.o.1.trans hz4).size;omega)
  have hle:(68::encs [mo,cnt]).length+top.length≤16777216:=by have:(encs [mo,cnt]).length≤20:=bR [mo,cnt] (by simp;have:=HB.o;omega);have:=HB.o;rw [lC];omega
  have hBs:B≤w9.heap.size:=by have:=(H1.o.1.trans hz9).size;omega
  have hown:∀ k,u8.ownBlock=some k→B≤k:=fun k hk=>(Su.Owns.lt h8' k hk).1
  refine appA 6 35 (.tmp 33) (.tmp 34) rfl rfl rfl (by kernel_rfl) (by kernel_rfl) B u8 _ _ _ rfl rfl h8' (HS.o w9 hz9).2 hle hBs fun v' w' h1 h2 _=>?_
  try simp only [Act.put,sA,sB,sC]
  refine rI [7] ?_
  refine qS 7 6 (v') (w') rfl rfl (by kernel_rfl) (rfl) ?_ AllReadyIn.nil
  try simp only [Act.put,sA,sB,sC]
  refine dI ?_
  have HF:Hid (Su.Owns w' w.heap.size v' OT∧G w w'):=by
   refine ⟨?_,Below.trans (B:=w.heap.size) (H1.o.1.trans hz9) ((Below.refl _ _).grown h2 (by omega) (fun k hk=>by have:=hown k hk;omega))⟩
   rw [HT.o,hBB]
   simpa [vY,vW] using h1
  clear hown hBs hle h8' hBB hz4 hz9 h8 h1 h2
  gi_wp2_with fail
  exact ⟨_,results_tmp rfl _ _ _,v',rfl,HF.o⟩
theorem dr (w:World) (x:Nat):Su.Has (w.alloc (.cells #[.int .u8 (x:Int)] 5)) (.slice (some ⟨w.heap.size,0,none⟩) 1 1) [x]:=Su.Owns.has (zq w x)
theorem tM (nm:ByteArray) (h:List Nat) (w:World) (hh:h.length=32) (hn:nm.size≤100000):
  Calls Tryz.prog 175 #[.string nm,.agg (h.map Su.vb).toArray] w fun e w'=>∃ u,e=.returned u∧Su.Owns w' w.heap.size u (zK nm h)∧G w w':=by
 obtain ⟨B,hB⟩:∃ B,w.heap.size=B:=⟨_,rfl⟩
 obtain ⟨w1,hw1⟩:∃ w1,w1=w.alloc (.cells (h.map Su.vb).toArray 22):=⟨_,rfl⟩
 have H1:Hid (G w w1∧Lies w1 B 0 (h.map Su.vb).toArray):=by
  rw [hw1,← hB]
  exact ⟨G.alloc _ _,jW w _ 22⟩
 have HS:Hid (∀ W,G w1 W→Su.Has W (.slice (some ⟨B,0,none⟩) 32 32) h):=fun W hg=>gO (hg.lies H1.o.2) h hh (fun j x h=>by rw [Nat.zero_add];simpa using h)
 have HT:Hid (zK nm h=[78]++(encN nm.size++strN nm)++h):=by show _=_;unfold zK;simp
 have HB:Hid (nm.size≤100000∧h.length=32∧w.heap.size=B):=⟨hn,hh,hB⟩
 generalize zK nm h=OT at *
 generalize (h.map Su.vb).toArray=TX at *
 clear hn hh
 refine (callsIn_wide (n:=3)).1 ?_
 refine callsIn_of_wp_marks Tryz.func175 rfl trivial (Go.wpIn_mono (Q:=RetM Tryz.f175 _) ?_ RetM.post) rfl
 simp only [Tryz.ntmps175,List.size_toArray,lC,lN,Nat.reduceAdd,Nat.reduceSub,Array.replicate_succ,Array.replicate_zero,List.push_toArray,List.append_toArray,List.nil_append,List.cons_append]
 gi_wp2_with fail
 rw [← hw1]
 refine qj 4 ?_
 have HD:Hid (G w1 w1.drew):=G.drew w1
 generalize w1.drew=w2 at *
 refine tX 1 6 (.string nm) (fun wz hz=>?_) ?_
 ·rfl
 refine tX 3 8 (.slice (some ⟨B,0,none⟩) 32 32) (fun wz hz=>?_) ?_
 ·have y:=zA B 0 wz;go_simp
 refine ko [0] (by kernel_rfl) (by simp) fun w3 hg3=>?_
 refine vX 0 5 (.slice (some ⟨w3.heap.size,0,none⟩) 1 1) (w3.alloc (.cells #[.int .u8 78] 5)) rfl (by kernel_rfl) (by go_simp) (G.alloc _ _) ?_
 try simp only [Act.put,sA,sB,sC]
 refine ko [2] (by kernel_rfl) (by simp) fun w4 hg4=>?_
 refine kX 2 7 127 #[.slice (some ⟨w3.heap.size,0,none⟩) 1 1,.string nm] rfl (by kernel_rfl) (by go_simp) ((callsIn_wide.2 (gA _ [78] nm w4 ((dr w3 78).below hg4) HB.o.1 (by simp))).mono ?_)
 rintro e w5 ⟨u8,rfl,h8,hg5⟩
 refine ⟨_,rfl,hg5,?_⟩
 try simp only [Act.put,sA,sB,sC]
 refine dL (by kernel_rfl) fun w9 hg9=>?_
 have hz9:G w1 w9:=(((HD.o.trans hg3).trans (G.alloc _ _)).trans hg4).trans (hg5.trans hg9)
 have hz4:G w1 w4:=((HD.o.trans hg3).trans (G.alloc _ _)).trans hg4
 have hBB:=HB.o.2.2
 have h8':Su.Owns w9 B u8 ([78]++(encN nm.size++strN nm)):=Su.Owns.mono (Su.Owns.below h8 hg9 (Nat.le_refl _)) (by have:=(H1.o.1.trans hz4).size;omega)
 have hle:([78]++(encN nm.size++strN nm)).length+h.length≤16777216:=by have:=jT (n:=nm.size) (by have:=HB.o;omega);have:=HB.o;have:=xq nm;simp only [lA,lC,lN];omega
 have hBs:B≤w9.heap.size:=by have:=(H1.o.1.trans hz9).size;omega
 have hown:∀ k,u8.ownBlock=some k→B≤k:=fun k hk=>(Su.Owns.lt h8' k hk).1
 refine appA 4 9 (.tmp 7) (.tmp 8) rfl rfl rfl (by kernel_rfl) (by kernel_rfl) B u8 _ _ _ rfl rfl h8' (HS.o w9 hz9) hle hBs fun v' w' h1 h2 _=>?_
 try simp only [Act.put,sA,sB,sC]
 refine rI [5] ?_
 refine qS 5 4 (v') (w') rfl rfl (by kernel_rfl) (rfl) ?_ AllReadyIn.nil
 try simp only [Act.put,sA,sB,sC]
 refine dI ?_
 have HF:Hid (Su.Owns w' w.heap.size v' OT∧G w w'):=by
  refine ⟨?_,Below.trans (B:=w.heap.size) (H1.o.1.trans hz9) ((Below.refl _ _).grown h2 (by omega) (fun k hk=>by have:=hown k hk;omega))⟩
  rw [HT.o,hBB]
  exact h1
 clear hown hBs hle h8' hBB hz4 hz9 h8 h1 h2
 gi_wp2_with fail
 exact ⟨_,results_tmp rfl _ _ _,v',rfl,HF.o⟩
theorem pi (a b:List Nat) (w:World) (ha:a.length=32) (hb:b.length=32):
  Calls Tryz.prog 177 #[.agg (a.map Su.vb).toArray,.agg (b.map Su.vb).toArray] w fun e w'=>∃ u,e=.returned u∧Su.Owns w' w.heap.size u (yM a b)∧G w w':=by
 obtain ⟨B,hB⟩:∃ B,w.heap.size=B:=⟨_,rfl⟩
 obtain ⟨w1,hw1⟩:∃ w1,w1=(w.alloc (.cells (a.map Su.vb).toArray 22)).alloc (.cells (b.map Su.vb).toArray 22):=⟨_,rfl⟩
 have H1:Hid (G w w1∧Lies w1 B 0 (a.map Su.vb).toArray∧Lies w1 (B+1) 0 (b.map Su.vb).toArray):=by
  rw [hw1,← hB]
  refine ⟨(G.alloc _ _).trans (G.alloc _ _),(G.alloc _ _).lies (jW w _ 22),?_⟩
  have:=jW (w.alloc (.cells (a.map Su.vb).toArray 22)) (b.map Su.vb).toArray 22
  rwa [World.size_alloc] at this
 have HS:Hid (∀ W,G w1 W→Su.Has W (.slice (some ⟨B,0,none⟩) 32 32) a∧Su.Has W (.slice (some ⟨B+1,0,none⟩) 32 32) b):=fun W hg=>⟨gO (hg.lies H1.o.2.1) a ha (fun j x h=>by rw [Nat.zero_add];simpa using h),gO (hg.lies H1.o.2.2) b hb (fun j x h=>by rw [Nat.zero_add];simpa using h)⟩
 have HT:Hid (yM a b=[[73],a,b].flatten):=by show _=_;unfold yM;simp
 have HB:Hid (a.length=32∧b.length=32∧w.heap.size=B):=⟨ha,hb,hB⟩
 generalize yM a b=OT at *
 generalize (a.map Su.vb).toArray=TA at *
 generalize (b.map Su.vb).toArray=TB at *
 clear ha hb
 refine (callsIn_wide (n:=3)).1 ?_
 refine callsIn_of_wp_marks Tryz.func177 rfl trivial (Go.wpIn_mono (Q:=RetM Tryz.f177 _) ?_ RetM.post) rfl
 simp only [Tryz.ntmps177,List.size_toArray,lC,lN,Nat.reduceAdd,Nat.reduceSub,Array.replicate_succ,Array.replicate_zero,List.push_toArray,List.append_toArray,List.nil_append,List.cons_append]
 gi_wp2_with fail
 rw [← hw1]
 refine qj 5 ?_
 have HD:Hid (G w1 w1.drew):=G.drew w1
 generalize w1.drew=w2 at *
 refine tX 1 6 (.slice (some ⟨B,0,none⟩) 32 32) (fun wz hz=>?_) ?_
 ·have y:=zA B 0 wz;go_simp
 refine tX 2 7 (.slice (some ⟨B+1,0,none⟩) 32 32) (fun wz hz=>?_) ?_
 ·have y:=zA (B+1) 0 wz;go_simp
 refine ko [0] (by kernel_rfl) (by simp) fun w3 hg3=>?_
 refine vX 0 5 (.slice (some ⟨w3.heap.size,0,none⟩) 1 1) (w3.alloc (.cells #[.int .u8 73] 5)) rfl (by kernel_rfl) (by go_simp) (G.alloc _ _) ?_
 try simp only [Act.put,sA,sB,sC]
 refine ko [3] (by kernel_rfl) (by simp) fun w4 hg4=>?_
 refine vX 3 8 (.slice (some ⟨w4.heap.size,0,none⟩) 3 3) (w4.alloc (.cells #[.slice (some ⟨w3.heap.size,0,none⟩) 1 1,.slice (some ⟨B,0,none⟩) 32 32,.slice (some ⟨B+1,0,none⟩) 32 32] 35)) rfl (by kernel_rfl) (by go_simp) (G.alloc _ _) ?_
 try simp only [Act.put,sA,sB,sC]
 refine ko [4] (by kernel_rfl) (by simp) fun w5 hg5=>?_
 have hz4:G w1 (w4.alloc (.cells #[.slice (some ⟨w3.heap.size,0,none⟩) 1 1,.slice (some ⟨B,0,none⟩) 32 32,.slice (some ⟨B+1,0,none⟩) 32 32] 35)):=(((HD.o.trans hg3).trans (G.alloc _ _)).trans hg4).trans (G.alloc _ _)
 have hz5:G w1 w5:=hz4.trans hg5
 have hL:=hg5.lies (jW w4 #[.slice (some ⟨w3.heap.size,0,none⟩) 1 1,.slice (some ⟨B,0,none⟩) 32 32,.slice (some ⟨B+1,0,none⟩) 32 32] 35)
 have hb3:Su.Has w5 (.slice (some ⟨w3.heap.size,0,none⟩) 1 1) [73]:=(dr w3 73).below ((hg4.trans (G.alloc _ _)).trans hg5)
 have CC:=tB w4.heap.size 3 [.slice (some ⟨w3.heap.size,0,none⟩) 1 1,.slice (some ⟨B,0,none⟩) 32 32,.slice (some ⟨B+1,0,none⟩) 32 32] [[73],a,b] w5 rfl (by simp)
  (fun i hi=>match i,hi with | 0,_=>jB hL 0 _ rfl | 1,_=>jB hL 1 _ rfl | 2,_=>jB hL 2 _ rfl | i+3,hi=>absurd hi (by simp))
  (fun i hi=>match i,hi with | 0,_=>hb3 | 1,_=>(HS.o w5 hz5).1 | 2,_=>(HS.o w5 hz5).2 | i+3,hi=>absurd hi (by simp)) (by have:=HB.o;simp;omega)
 refine kX 4 9 125 #[.slice (some ⟨w4.heap.size,0,none⟩) 3 3] rfl (by kernel_rfl) (by go_simp) ((callsIn_wide.2 CC).mono ?_)
 rintro e w6 ⟨u,rfl,h6,hg6⟩
 refine ⟨_,rfl,hg6,?_⟩
 try simp only [Act.put,sA,sB,sC]
 refine dL (by kernel_rfl) fun w9 hg9=>?_
 refine rI [5] ?_
 refine qS 5 4 (u) (w9) rfl rfl (by kernel_rfl) (rfl) ?_ AllReadyIn.nil
 try simp only [Act.put,sA,sB,sC]
 refine dI ?_
 have HF:Hid (Su.Owns w9 w.heap.size u OT∧G w w9):=by
  have hBB:=HB.o.2.2
  have:=(H1.o.1.trans hz5).size
  refine ⟨?_,(H1.o.1.trans hz5).trans (hg6.trans hg9)⟩
  rw [HT.o]
  exact Su.Owns.mono (Su.Owns.below h6 hg9 (Nat.le_refl _)) (by omega)
 clear CC hb3 hL hz5 hz4 h6
 gi_wp2_with fail
 exact ⟨_,results_tmp rfl _ _ _,u,rfl,HF.o⟩
end Go.Proofs.YtjikkhbcbfpocaaGreatDoor
