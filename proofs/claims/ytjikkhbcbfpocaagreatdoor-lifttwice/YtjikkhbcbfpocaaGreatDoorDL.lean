import Derived.Test.YtjikkhbcbfpocaaGreatDoorDJ
import Derived.Shelf.Slices.ReverseS
set_option maxRecDepth 100000
set_option maxHeartbeats 4000000
namespace Go.Proofs.YtjikkhbcbfpocaaGreatDoor
open Go.RowKit Go.Shelf
attribute [local go_sem] Oper.semAt_some
def opM (b:List Nat):Bool:=decide (b.take 4=[116,119,110,101])
def opU (b:List Nat):Nat × Wi.St:=Wi.uintS (up b) ⟨4,0,0⟩ 3
def opF (b:List Nat):Option (Int × Int):=
 if opM b=false then some (0,60) else if (opU b).1=0 then some (4,61) else if b.length<(opU b).2.p+4 then some ((opU b).2.p,62)
 else if b.drop (b.length-4)=le4 (Su.Crc.crc (b.take (b.length-4))) then none else some ((b.length-4:Nat),62)
theorem bN (l:List Int):(Wi.mkStr l).toList=l.map fun c=>UInt8.ofNat c.toNat:=by
 show tl (Wi.mkStr l)=_
 unfold Wi.mkStr tl
 simp
theorem fY {a b:List Int} (ha:Wire.Bytes a) (hb:Wire.Bytes b) (h:(Wi.mkStr a).toList=(Wi.mkStr b).toList):a=b:=by
 have h2:=h
 rw [bN,bN] at h2
 clear h
 induction a generalizing b with
 | nil=>cases b with
  | nil=>rfl
  | cons=>cases h2
 | cons x a ih=>cases b with
  | nil=>cases h2
  | cons y b=>
   rw [List.map_cons,List.map_cons,List.cons.injEq] at h2
   have h3:=congrArg UInt8.toNat h2.1
   have hx:=ha x (by simp)
   have hy:=hb y (by simp)
   simp only [UInt8.toNat_ofNat'] at h3
   rw [ih (fun z hz=>ha z (by simp [hz])) (fun z hz=>hb z (by simp [hz])) h2.2]
   congr 1
   omega
theorem zm {b:List Nat} (h:Su.Bytes b):Wire.Bytes (up b):=fun x hx=>by
 obtain ⟨y,hy,rfl⟩:=List.mem_map.1 hx
 have:=h y hy
 exact ⟨Int.natCast_nonneg _,by show (y:Int)<256;omega⟩
theorem wj {w:World} {v:Value} {b:List Nat} (h:Su.Has w v b) (hB:Su.Bytes b):(convert 35 9 v).run Tryz.prog w=.ok (.string (Wi.mkStr (up b))) w:=Wi.fM (cE.2 h) (zm hB)
theorem bg (va vb:Value) (a b:List Nat) (w:World) (ha:Su.Has w va a) (hb:Su.Has w vb b) (hA:Su.Bytes a) (hB:Su.Bytes b):Calls Tryz.prog 64 #[va,vb] w fun e w'=>e=.returned (.bool (decide (a=b)))∧w'=w:=by
 have c1:=wj ha hA
 have c2:=wj hb hB
 have hd:((Wi.mkStr (up a)).toList==(Wi.mkStr (up b)).toList)=decide (a=b):=by
  by_cases h:a=b
  ·subst h;simp
  ·rw [decide_eq_false h]
   refine beq_eq_false_iff_ne.2 fun e=>h (pN (fY (zm hA) (zm hB) e))
 have HD:=hid hd
 clear ha hb hA hB hd
 go_enter Tryz.func64,Tryz.ntmps64
 go_wp2
 go_ret
 exact ⟨by rw [HD.o];rfl,rfl⟩
theorem bh {B R:Nat} {w w1 w2:World} (h:Below B w w1) (hg:w1.grownBy w2 (some R)) (hR:B≤R) (hB:B≤w1.heap.size):Below B w w2:=
 ⟨hg.os.trans h.os,hg.tape.trans h.tape,hg.output.trans h.output,Nat.le_trans h.size hg.size,fun k hk=>(hg.block k (by omega) (by simp;omega)).trans (h.block k hk)⟩
theorem raw4 (b:List Nat):(Wi.rawB (up b) ⟨0,0,0⟩ 4=[116,119,110,101]↔opM b=true)∧(opM b=true→Wi.rawS (up b) ⟨0,0,0⟩ 4=⟨4,0,0⟩):=by
 unfold Wi.rawB Wi.rawS opM
 simp only [ne_eq,not_true_eq_false,if_false]
 have e4:(4:Int).toNat=4:=rfl
 rw [e4,kK,Nat.zero_add,List.drop_zero]
 constructor
 ·constructor
  ·intro h
   split at h
   ·cases h
   ·rw [← pP] at h
    exact decide_eq_true (pN (by rw [h];rfl))
  ·intro h
   have h:=of_decide_eq_true h
   have hl:=congrArg List.length h
   simp at hl
   rw [if_neg (by omega),← pP,h]
   rfl
 ·intro h
  have h:=of_decide_eq_true h
  have hl:=congrArg List.length h
  simp at hl
  rw [if_neg (by omega)]
theorem sliceLow (a:Addr) (n cap q:Nat) (h:q≤n) (hc:¬ cap=q) (wz:World):(Instr.sliceAt 35 (.slice (some a) n cap) (some (.int .i64 (q:Int))) none none).run Tryz.prog wz=.ok (.slice (some (a.add q)) (n-q) (cap-q)) wz:=by
 have:=Su.slice43 a n cap q h wz
 rw [if_neg hc] at this
 exact this
theorem sliceHigh (a:Addr) (n cap q:Nat) (h:q≤cap) (wz:World):(Instr.sliceAt 35 (.slice (some a) n cap) none (some (.int .i64 (q:Int))) none).run Tryz.prog wz=.ok (.slice (some a) q cap) wz:=by
 have h1:(Tryz.prog.info? 5).map (·.size)=some 1:=by kernel_rfl
 cases hq:Tryz.prog.info? 5 with
 | none=>simp [hq] at h1
 | some i=>
  have hs:i.size=1:=by simpa [hq] using h1
  have hmI:(q:Int)≤(cap:Int):=by omega
  rw [run_sliceAt_slice _ 35 _ _ _ _ Tryz.underlying35]
  simp [Instr.slice,run_underlying Tryz.underlying35,Instr.sliceBounds,run_sliceBound,sizeOf,typeInfo,hq,hmI,Result.andThen]
  intro _
  simp [Addr.add]
theorem fZ (n:Nat):Su.Bytes (le4 n):=fun x hx=>by
 unfold le4 at hx
 simp only [List.mem_cons,List.not_mem_nil,or_false] at hx
 rcases hx with rfl | rfl | rfl | rfl<;>exact Nat.mod_lt _ (by decide)
def OpenR (b:List Nat) (w:World) (e:Ending) (w':World):Prop:=
 (∃ x fb,opF b=some x∧e=.returned (.tuple #[.pointer none,.pointer (some ⟨fb,0,none⟩)])∧w'.heap[fb]?=some (.cells #[.int .i64 x.1,.string ⟨#[]⟩,.int .i64 x.2] 93 (0,0))∧w.heap.size≤fb)∨
 (∃ c M,opF b=none∧e=.returned (.tuple #[.pointer (some ⟨c.X,0,none⟩),.pointer none])∧c.lo=w.heap.size∧c.l=up (b.take (b.length-4))∧c.ver=((opU b).1:Int)∧Rs c ⟨⟨(opU b).2.p,0,0⟩,0,none,[]⟩ M w')
theorem nD (vb:Value) (b:List Nat) (w:World) (hb:Su.Has w vb b) (hB:Su.Bytes b) (hT:Su.Half w) (hl:b.length≤16777216):
  Calls Tryz.prog 35 #[vb] w fun e w'=>OpenR b w e w'∧G w w':=by
 obtain ⟨ao,n,cap,hv,hn⟩:∃ ao n cap,vb=.slice ao n cap∧n=b.length:=by
  rcases hb with ⟨rfl,rfl⟩ | ⟨a,cp,rfl,_⟩
  ·exact ⟨_,_,_,rfl,rfl⟩
  ·exact ⟨_,_,_,rfl,rfl⟩
 subst hv
 have CR:=Wi.mh (.slice ao n cap) (up b) w (cE.2 hb) (by rw [kK];exact hl)
 have h4:=raw4 b
 have HH:=hid (⟨hb,hB,hT,hl,hn,h4⟩:_∧_∧_∧_∧_∧_)
 have hn2:(n:Int)≤16777216:=by omega
 clear hb hB hT hl hn h4
 go_enter Tryz.func35,Tryz.ntmps35
 go_upto_region 2 with (go_at_call 60;refine CR.mono ?_;rintro e w1 ⟨R,rfl,hR,h1,hg⟩;have HR:=hid (⟨hR,h1,hg⟩:_∧_∧_);clear hR h1 hg CR)
 have C2:=Wi.mg w.heap.size R 4 (up b) ⟨0,0,0⟩ w1 HR.o.2.1 (by decide)
 have hrB:Wire.Bytes (Wi.rawB (up b) ⟨0,0,0⟩ 4):=by
  unfold Wi.rawB
  split
  ·intro x hx;cases hx
  ·split
   ·intro x hx;cases hx
   ·exact ((zm HH.o.2.1).drop _).take _
 have hgs:∀ w2,w1.grownBy w2 (some R)→G w w2:=fun w2 h=>bh HR.o.2.2 h HR.o.1 HR.o.2.2.size
 obtain ⟨t,ht⟩:∃ t,Wi.rawB (up b) ⟨0,0,0⟩ 4=t:=⟨_,rfl⟩
 obtain ⟨s1,hs1⟩:∃ s1,Wi.rawS (up b) ⟨0,0,0⟩ 4=s1:=⟨_,rfl⟩
 rw [ht,hs1] at C2
 rw [ht] at hrB
 have HT:=hid (⟨hrB,hgs,ht,hs1⟩:_∧_∧_∧_)
 clear hrB hgs ht hs1
 have hcv:Hid (∀ (w2:World) (v:Value),Wi.Owns w2 w1.heap.size v t→(convert 35 9 v).run Tryz.prog w2=.ok (.string (Wi.mkStr t)) w2):=fun w2 v h=>Wi.fM h.has HT.o.1
 cases hM:opM b with
 | false=>
  have hne:¬ (Wi.mkStr t).toList=[116,119,110,101]:=fun e=>by
   have e2:t=[116,119,110,101]:=fY HT.o.1 (b:=[116,119,110,101]) (fun x hx=>by simp at hx;omega) (by rw [e,bN];rfl)
   rw [← HT.o.2.2.1,(HH.o.2.2.2.2.2).1,hM] at e2
   cases e2
  have HF:Hid (opF b=some (0,60)):=by show opF b=_;unfold opF;rw [if_pos hM]
  have hneb:((Wi.mkStr t).toList==[116,119,110,101])=false:=by simpa using hne
  clear hM hne
  go_wp2_with (go_at_call 61;refine C2.mono ?_;rintro e w2 ⟨v,rfl,h1,h2,h3⟩;have cv:=hcv.o w2 v h3;have HA:=hid (HT.o.2.1 w2 h2);clear h1 h2 h3 C2)
  go_ret2
  exact ⟨.inl ⟨(0,60),w2.heap.size,HF.o,rfl,World.alloc_heap_new w2 _,HA.o.size⟩,HA.o.trans (G.alloc _ _)⟩
 | true=>
  have hs4:s1=⟨4,0,0⟩:=by rw [← HT.o.2.2.2];exact HH.o.2.2.2.2.2.2 hM
  have ht4:t=[116,119,110,101]:=by rw [← HT.o.2.2.1];exact HH.o.2.2.2.2.2.1.2 hM
  subst hs4 ht4
  have hme:(Wi.mkStr [116,119,110,101]).toList=[116,119,110,101]:=by rw [bN];rfl
  go_upto_region 4 with (go_at_call 61;refine C2.mono ?_;rintro e w2 ⟨v,rfl,h1,h2,h3⟩;have cv:=hcv.o w2 v h3;have HA:=hid (⟨HT.o.2.1 w2 h2,h1⟩:_∧_);clear h1 h2 h3 C2)
  have C3:=Wi.fT w.heap.size R (up b) ⟨4,0,0⟩ w2 HA.o.2
  have C4:=Wi.mu w.heap.size R 3 (up b) ⟨4,0,0⟩ w2 HA.o.2 (zm HH.o.2.1)
  have hv3:=eI (up b) ⟨4,0,0⟩ 3
  have hp4:=oL (up b) ⟨4,0,0⟩ 3
  obtain ⟨U,hU⟩:∃ U,Wi.uintS (up b) ⟨4,0,0⟩ 3=U:=⟨_,rfl⟩
  rw [hU] at C4 hv3 hp4
  have hUo:opU b=U:=hU
  obtain ⟨N,s2⟩:=U
  simp only at C4 hv3 hp4
  have HU:=hid hUo
  clear hU hUo hcv hme cv
  go_upto_region 6 with (first
   | (go_at_call 62;refine C3.mono ?_;rintro e w3 ⟨rfl,hw3⟩;replace hw3:=hw3.symm;subst hw3)
   | (go_at_call 63;refine C4.mono ?_;rintro e w3 ⟨rfl,h1,h2⟩;have HB:=hid (⟨bh HA.o.1 h2 HR.o.1 HA.o.1.size,h1⟩:_∧_);clear h1 h2 C4))
  clear HA C3
  by_cases hN0:N=0
  ·have HF:Hid (opF b=some (4,61)):=by
    show opF b=_
    unfold opF
    rw [if_neg (by rw [hM];decide),HU.o,if_pos hN0]
   subst hN0
   go_wp2
   go_ret2
   exact ⟨.inl ⟨(4,61),w3.heap.size,HF.o,rfl,World.alloc_heap_new w3 _,HB.o.1.size⟩,G.trans (HB.o.1:G w w3) (G.alloc _ _)⟩
  ·have hN1:¬ ((N:Int)<1):=by omega
   have C5:=Wi.fT w.heap.size R (up b) s2 w3 HB.o.2
   obtain ⟨p,hp⟩:∃ p:Nat,s2.p=p:=⟨_,rfl⟩
   rw [hp] at C5 hp4
   have HPP:=hid hp
   have hpl:p≤b.length:=by
    obtain ⟨_,_,_,_,_,q1,_⟩:=HB.o.2
    rw [hp,kK] at q1
    exact q1
   have hF0:opF b=if b.length<p+4 then some ((p:Int),62) else if b.drop (b.length-4)=le4 (Su.Crc.crc (b.take (b.length-4))) then none else some ((b.length-4:Nat),62):=by
    unfold opF
    rw [if_neg (by rw [hM];decide),HU.o,if_neg hN0,hp]
   have HF0:=hid hF0
   clear hp hF0
   have hpn:(p:Int)≤16777216:=by have:=HH.o.2.2.2.1;omega
   by_cases hsh:b.length<p+4
   ·have hshI:(n:Int)-4<(p:Int):=by have:=HH.o.2.2.2.2.1;omega
    have HF:=hid (HF0.o.trans (if_pos hsh))
    clear HF0 hsh hN0 hpl
    go_wp2_with (go_at_call 62;refine C5.mono ?_;rintro e w4 ⟨rfl,hw4⟩;replace hw4:=hw4.symm;subst hw4)
    go_ret2
    exact ⟨.inl ⟨((p:Int),62),w3.heap.size,HF.o,rfl,World.alloc_heap_new w3 _,HB.o.1.size⟩,G.trans (HB.o.1:G w w3) (G.alloc _ _)⟩
   ·obtain ⟨q,hq⟩:∃ q:Nat,b.length=q+4:=⟨b.length-4,by omega⟩
    have hnq:n=q+4:=by have:=HH.o.2.2.2.2.1;omega
    have hnqI:(n:Int)-4=(q:Int):=by omega
    have hshI:¬ ((q:Int)<(p:Int)):=by omega
    have hF1:=HF0.o.trans (if_neg hsh)
    rw [show b.length-4=q by omega] at hF1
    have HF:=hid hF1
    have hb3:Su.Has w3 (.slice ao n cap) b:=HH.o.1.below HB.o.1
    obtain ⟨a,rfl,hcap,hcell⟩:∃ a,ao=some a∧b.length≤cap∧∀ i,i<b.length→w3.cell? (a.add i)=some (Su.vb (b.getD i 0)):=by
     rcases hb3 with ⟨e,_⟩ | ⟨a,cp,e,hc,h⟩
     ·injection e with e1 e2;omega
     ·injection e with e1 e2 e3
      subst e1 e3
      exact ⟨a,rfl,hc,h⟩
    have hb4:Hid (∀ w4,G w3 w4→Su.Has w4 (.slice (some (a.add q)) 4 (cap-q)) (b.drop q)∧Su.Has w4 (.slice (some a) q cap) (b.take q)):=fun w4 h=>by
     have hc2:∀ i,i<b.length→w4.cell? (a.add i)=some (Su.vb (b.getD i 0)):=fun i hi=>h.cell (hcell i hi)
     refine ⟨.inr ⟨a.add q,cap-q,?_,?_,fun i hi=>?_⟩,.inr ⟨a,cap,?_,?_,fun i hi=>?_⟩⟩
     ·rw [List.length_drop];congr 1;omega
     ·rw [List.length_drop];omega
     ·rw [List.length_drop] at hi
      rw [Addr.add_add,hc2 (q+i) (by omega)]
      simp [List.getD_eq_getElem?_getD]
     ·rw [List.length_take];congr 1;omega
     ·rw [List.length_take];omega
     ·rw [List.length_take] at hi
      rw [hc2 i (by omega)]
      simp [List.getD_eq_getElem?_getD,show i<q by omega]
    have hBt:Su.Bytes (b.take q):=fun x hx=>HH.o.2.1 x (List.mem_of_mem_take hx)
    have hBd:Su.Bytes (b.drop q):=fun x hx=>HH.o.2.1 x (List.mem_of_mem_drop hx)
    have HX:=hid (⟨hBt,hBd,hq,hcap⟩:_∧_∧_∧_)
    have hcq:¬ cap=q:=by omega
    have HNQ:=hid hnq
    clear hcell hb3 hF1 HF0 hsh hN0 hpl hBt hBd hq hcap hnq
    go_upto_region 12 with (go_at_call 62;refine C5.mono ?_;rintro e w4 ⟨rfl,hw4⟩;replace hw4:=hw4.symm;subst hw4)
    have hqn:q≤n:=by have:=HNQ.o;omega
    have hqc:q≤cap:=by have:=HX.o.2.2.2;have:=HX.o.2.2.1;omega
    have hn4:n-q=4:=by have:=HNQ.o;omega
    have yS1:=sliceLow a n cap q hqn hcq
    have yS2:=sliceHigh a n cap q hqc
    rw [hn4] at yS1
    have HS:=hid (⟨yS1,yS2⟩:_∧_)
    clear yS1 yS2 hn4
    have hGd:G w3 w3.drew:=(Below.refl _ _).drew
    have CS:=gH (.slice (some a) q cap) (b.take q) w3.drew (hb4.o _ hGd).2 HX.o.1 (HH.o.2.2.1.below (B:=w.heap.size) (HB.o.1.trans ((Below.refl _ _).drew)) HH.o.2.2.1.size) (by rw [List.length_take];have:=HH.o.2.2.2.1;omega)
    have CE:Hid (∀ (w4:World) (vs:Value),G w3.drew w4→Su.Owns w4 w3.drew.heap.size vs (le4 (Su.Crc.crc (b.take q)))→Calls Tryz.prog 64 #[.slice (some (a.add q)) 4 (cap-q),vs] w4 fun e w'=>e=.returned (.bool (decide (b.drop q=le4 (Su.Crc.crc (b.take q)))))∧w'=w4):=fun w4 vs h1 h2=>bg _ _ _ _ _ (hb4.o _ (G.trans hGd h1)).1 h2.has HX.o.2.1 (fZ _)
    generalize le4 (Su.Crc.crc (b.take q))=L4 at *
    refine wp_region_any (by kernel_rfl) ?_
    change wpAny _ _ _ _ _ _ _ (World.drew _)
    refine tA 0 (.slice (some a) n cap) ?_ ?_
    ·intro wz;go_simp
    try simp only [Act.put,sD,sE,sA,sB,sC]
    refine tA 1 (.int .i64 (q:Int)) ?_ ?_
    ·intro wz;go_simp
    try simp only [Act.put,sD,sE,sF,sA,sB,sC]
    refine tA 2 (.slice (some (a.add q)) 4 (cap-q)) ?_ ?_
    ·intro wz;have y:=HS.o.1 wz;go_simp
    try simp only [Act.put,sD,sE,sF,sA,sB,sC]
    refine tA 3 (.slice (some a) n cap) ?_ ?_
    ·intro wz;go_simp
    try simp only [Act.put,sD,sE,sF,sA,sB,sC]
    refine tA 4 (.int .i64 (q:Int)) ?_ ?_
    ·intro wz;go_simp
    try simp only [Act.put,sD,sE,sF,sA,sB,sC]
    refine tA 5 (.slice (some a) q cap) ?_ ?_
    ·intro wz;have y:=HS.o.2 wz;go_simp
    try simp only [Act.put,sD,sE,sF,sA,sB,sC]
    refine rA [6] ?_
    refine oR (fun K' hK'=>?_)
    go_simp
    refine CS.mono ?_
    rintro e w4 ⟨vs,rfl,ho4,hg4⟩
    have CE2:=CE.o w4 vs hg4 ho4
    have HG4:=hid (G.trans hGd hg4)
    clear ho4 hg4 CS CE
    refine hK' _ _ ?_
    clear hK' K'
    try simp only [Act.put,sD,sE,sF,sA,sB,sC]
    refine rA [7] ?_
    refine oR (fun K' hK'=>?_)
    go_simp
    refine CE2.mono ?_
    rintro e w5 ⟨rfl,hw5⟩
    replace hw5:=hw5.symm
    subst hw5
    clear CE2
    refine hK' _ _ ?_
    clear hK' K'
    try simp only [Act.put,sD,sE,sF,sA,sB,sC]
    obtain ⟨bq,hbq⟩:∃ bq,decide (b.drop q=L4)=bq:=⟨_,rfl⟩
    rw [hbq]
    refine tA 8 (.bool (!bq)) ?_ ?_
    ·intro wz;go_simp
    try simp only [Act.put,sD,sE,sF,sA,sB,sC]
    refine dA ?_
    have hG4:G w w4:=G.trans (HB.o.1:G w w3) HG4.o
    cases bq with
    | false=>
     have HF2:Hid (opF b=some ((q:Int),62)):=HF.o.trans (if_neg (of_decide_eq_false hbq))
     clear HF hbq HS
     go_wp2
     go_ret2
     exact ⟨.inl ⟨((q:Int),62),w4.heap.size,HF2.o,rfl,World.alloc_heap_new w4 _,hG4.size⟩,G.trans hG4 (G.alloc _ _)⟩
    | true=>
     have HF2:Hid (opF b=none):=HF.o.trans (if_pos (of_decide_eq_true hbq))
     have hb5:=(hb4.o w4 HG4.o).2
     have hlt:(up (b.take q)).length=q:=by rw [kK,List.length_take];have:=HX.o.2.2.1;omega
     have CR2:=Wi.mh (.slice (some a) q cap) (up (b.take q)) w4 (cE.2 hb5) (by rw [hlt];have:=HH.o.2.2.2.1;have:=HX.o.2.2.1;omega)
     have hBl:Wire.Bytes (up (b.take q)):=zm HX.o.1
     have HL:=hid (⟨hlt,hBl⟩:_∧_)
     have yS2:=HS.o.2 w4
     clear HF hbq HS hb5 hlt hBl
     go_upto_region 15 with (go_at_call 60;refine CR2.mono ?_;rintro e w6 ⟨R2,rfl,h1,h2,h3⟩;have HC:=hid (⟨h1,h2,h3⟩:_∧_∧_);clear h1 h2 h3 CR2)
     obtain ⟨X,hX⟩:∃ X,w6.heap.size=X:=⟨_,rfl⟩
     have hG6:G w w6:=G.trans hG4 (HC.o.2.2:G w4 w6)
     have hs4:=hG4.size
     have hR2l:=HC.o.2.1.lt
     have hS7:Rs ⟨w.heap.size,X,w4.heap.size,R2,up (b.take q),(N:Int),HL.o.2⟩ ⟨⟨0,0,0⟩,0,none,[]⟩ (fun k=>(w4.heap.size≤k∧k≤R2)∨k=X) (w6.alloc (.cells #[.pointer (some ⟨R2,0,none⟩),.int .i64 (N:Int),.int .i64 0,.pointer none,.slice none 0 0] 79)):=by
      refine ⟨.pointer none,.slice none 0 0,[],⟨?_,Wi.Rdr.below HC.o.2.1 (G.alloc _ _),hs4,.inr rfl,fun k q1 q2=>.inl ⟨q1,q2⟩,rfl,World.ownsRow_nil _ _ _ _,rfl,fun k e=>(by cases e),?_⟩⟩
      ·show (w6.alloc _).heap[X]?=_
       rw [← hX]
       exact World.alloc_heap_new w6 _
      ·intro k hk
       rw [World.size_alloc]
       show w.heap.size≤k∧_
       rcases hk with hk | hk
       ·exact ⟨by omega,by omega⟩
       ·have:=hG6.size
        omega
     have q0:=hS7.q0
     have C8:=hS7.raw (p:Int) ⟨by omega,by omega⟩
     simp only at C8 q0
     have hrs:Wi.rawS (up (b.take q)) ⟨0,0,0⟩ (p:Int)=⟨p,0,0⟩:=by
      unfold Wi.rawS
      rw [if_neg (by simp),if_neg (by rw [HL.o.1];show ¬ q<0+(p:Int).toNat;omega)]
      simp
     rw [hrs] at C8
     have HS8:=hid (G.trans hG6 (G.alloc w6 (.cells #[.pointer (some ⟨R2,0,none⟩),.int .i64 (N:Int),.int .i64 0,.pointer none,.slice none 0 0] 79)))
     clear hS7 hrs hG6 hs4 hR2l hG4
     generalize w6.alloc (.cells #[.pointer (some ⟨R2,0,none⟩),.int .i64 (N:Int),.int .i64 0,.pointer none,.slice none 0 0] 79)=w7 at *
     rw [hX]
     have HW4:=hid (HS8.o.size)
     go_wp2_with (go_at_call 61;refine C8.mono ?_;rintro e w8 ⟨v8,rfl,h1,h2⟩;have HE:=hid h1;clear h1 h2 C8)
     go_ret2
     obtain ⟨M8,k1,k2,k3⟩:=HE.o
     refine ⟨.inr ⟨⟨w.heap.size,X,w4.heap.size,R2,up (b.take q),(N:Int),HL.o.2⟩,M8,HF2.o,rfl,rfl,?_,?_,?_⟩,?_⟩
     ·rw [show b.length-4=q by have:=HX.o.2.2.1;omega]
     ·rw [HU.o]
     ·rw [HU.o,HPP.o]
      exact k1
     ·exact Below.trans (B:=w.heap.size) HS8.o (k3.fr.below (fun b hb=>by
       rcases hb with hb | hb
       ·have:=(G.trans (HB.o.1:G w w3) HG4.o).size;omega
       ·have:=(G.trans (G.trans (HB.o.1:G w w3) HG4.o) (HC.o.2.2:G w4 w6)).size;omega) HW4.o)
end Go.Proofs.YtjikkhbcbfpocaaGreatDoor
namespace Go.Proofs.YtjikkhbcbfpocaaGreatDoor
open Go.RowKit Go.Shelf
def Tryz.lays17_ren:Go.Shelf.Ren:=⟨fun | 17=>107 | n=>n,fun | 24=>106 | n=>n,fun | n=>n⟩
theorem Tryz.lays17:Go.Proofs.Lays2.n17 Tryz.prog Tryz.lays17_ren:={
 mixed:=by kernel_rfl
 f17:=Tryz.func107.trans (congrArg some (by kernel_rfl))
 t0:=Tryz.underlying0
 a0:=Tryz.isAgg0
 z0:=Tryz.sizeOf0
 v0:=Tryz.zeroValue0
 t3:=Tryz.underlying3
 a3:=Tryz.isAgg3
 z3:=Tryz.sizeOf3
 v3:=Tryz.zeroValue3
 t4:=Tryz.underlying4
 a4:=Tryz.isAgg4
 z4:=Tryz.sizeOf4
 v4:=Tryz.zeroValue4
 t9:=Tryz.underlying9
 a9:=Tryz.isAgg9
 z9:=Tryz.sizeOf9
 v9:=Tryz.zeroValue9
 t24:=Tryz.underlying106
 a24:=Tryz.isAgg106
 z24:=Tryz.sizeOf106
 v24:=Tryz.zeroValue106 }
theorem iM {lo:Nat} (w0 w:World) (v:Value) (L:List ByteArray) (hb:Below lo w0 w) (hlo:lo≤w.heap.size) (ho:jz w lo v L) (hl:L.length≤1000):Calls Tryz.prog 107 #[v] w fun e w'=>e=.returned (.tuple #[])∧Below lo w0 w'∧HasT w' v L.reverse:=by
 have h0:=ho
 obtain ⟨hlen,⟨rfl,hL⟩ | ⟨g,cap,cur,rfl,hg,hh,hn,hm,hs,ht⟩⟩:=ho
 ·have hL:L=[]:=List.length_eq_zero_iff.1 hL
  subst hL
  refine (Any.slices_Reverse_string_empty Tryz.lays17 none 0 w).mono ?_
  rintro e w' ⟨rfl,rfl⟩
  exact ⟨rfl,hb,.inl ⟨rfl,rfl⟩⟩
 ·have hH:Sort.Holds encStr w g 0 (L.map (·.data.toList)).toArray:=fun j hj=>by
   have hj:j<L.length:=by simpa using hj
   have h1:=World.ownsRow.cells h0 (g:=g) rfl j (.string L[j]) (by simp [hj])
   refine ⟨?_,World.ownsRow.frozenAt h0 _⟩
   rw [Addr.add_mid] at h1
   rw [h1]
   simp [hj,encStr]
  have C:=Any.slices_Reverse_string Tryz.lays17 g 0 cap (L.map (·.data.toList)) w hH (by rw [List.length_map];omega)
  rw [List.length_map] at C
  refine C.mono ?_
  rintro e w' ⟨rfl,n,rfl⟩
  refine ⟨rfl,⟨hb.os,hb.tape,hb.output,by rw [Sort.size_putRow];exact hb.size,fun k hk=>?_⟩,.inr ⟨_,cap,by rw [List.length_reverse],by rw [List.length_reverse];exact hn,fun i s hi=>?_⟩⟩
  ·refine Eq.trans ?_ (hb.block k hk)
   unfold Sort.putRow Sort.mapBlock
   simp only [Array.getElem?_modify]
   rw [if_neg (by omega)]
   rfl
  ·have hil:i<L.length:=by
    rcases Nat.lt_or_ge i L.reverse.length with q | q
    ·simpa using q
    ·rw [List.getElem?_eq_none q] at hi;cases hi
   have hH2:Sort.Holds encStr (Sort.ahead w n) g 0 (L.map (·.data.toList)).toArray:=hH
   have:=Sort.cell?_putRow encStr (Sort.ahead w n) g 0 _ ((L.map (·.data.toList)).reverse).toArray hH2 (by simp) i (by simpa using hil)
   rw [Addr.add_mid,this]
   congr 1
   rw [← List.map_reverse]
   have hi2:i<L.reverse.length:=by simpa using hil
   rw [gl hi2] at hi
   injection hi with hi
   rw [getElem!_pos _ i (by simpa using hil)]
   simp only [List.getElem_toArray,List.getElem_map]
   rw [hi]
def wm:Value→Nat
 | .slice _ n _=>n
 | _=>0
@[simp] theorem vD (a:Option Addr) (n c:Nat):wm (.slice a n c)=n:=rfl
theorem sd:∀ L:List ByteArray,(∀ x∈L,x.size≤255)→(aI (L.map tl)).length≤256*L.length:=fun L h=>by
 refine Nat.le_trans (cW L) ?_
 induction L with
 | nil=>exact Nat.le_refl _
 | cons a t ih=>
  have h1:=ih fun x hx=>h x (by simp [hx])
  have h2:=h a (by simp)
  simp only [wsum,lC]
  omega
theorem se {D:Nat→Prop} (ns:List ByteArray) (b:Nat) (w:World) (hS:Spot w D ns b) (hn:ns.length≤64) (hx:∀ x∈ns,x.size≤255):
  Calls Tryz.prog 70 #[.pointer (some ⟨b,0,none⟩)] w fun e w'=>∃ s,e=.returned (.string s)∧G w w':=by
 obtain ⟨i0,hi,hz0,hz1,hz2⟩:=info_parts Tryz.info9
 have HH:=hid (⟨hS,hn,hx⟩:_∧_∧_)
 obtain ⟨Z,hZ⟩:∃ Z,ns.length=Z:=⟨_,rfl⟩
 have HZ:=hid hZ
 have hZ64:Z≤64:=by omega
 clear hS hn hx hZ
 go_enter Tryz.func70,Tryz.ntmps70
 go_wp2_with fail
 go_loopw [0,3] (fun s u wr=>∃ (k sb:Nat) (ao:Option Addr) (uc:Nat),k≤Z∧s=.pointer (some ⟨sb,0,none⟩)∧u=.slice ao k uc∧Hid (Below w.heap.size w wr∧Spot w D (ns.drop k) sb∧jz wr w.heap.size (.slice ao k uc) (ns.take k))) (fun _ u _=>Z-wm u)
 case atStart=>exact ⟨0,b,none,0,Nat.zero_le _,rfl,rfl,Below.refl _ _,HH.o.1,jz.nil _ _⟩
 case round=>
  obtain ⟨k,sb,ao,uc,hk,rfl,rfl,HI⟩:=hrel
  cases hdr:ns.drop k with
  | nil=>
   have hkZ:k=Z:=by
    have:=congrArg List.length hdr
    rw [List.length_drop,HZ.o] at this
    simp at this
    omega
   have hsp:=HI.o.2.1
   rw [hdr] at hsp
   have q0:wr.cell? ⟨sb,0,none⟩=some (.pointer none):=by
    have e:=hsp.2
    have hlt:=(gS e)
    have e2:=(HI.o.1.block sb hlt).trans e
    simp [World.cell?,e2]
   have how:=HI.o.2.2
   rw [hkZ,List.take_of_length_le (by rw [HZ.o];exact Nat.le_refl _)] at how
   have C1:=iM w wr (.slice ao k uc) ns HI.o.1 HI.o.1.size (by rw [hkZ];exact how) (by have:=HH.o.2.1;omega)
   have HB:=hid HI.o.1
   clear hsp how hdr HI hkZ
   go_wp2_with (first
    | (go_at_call 107;refine C1.mono ?_;rintro e w1 ⟨rfl,h1,h2⟩;have HC:=hid (⟨h1,h2⟩:_∧_);have C2:=bA (.slice ao k uc) ns.reverse w1 h2 (by rw [List.length_reverse];have:=HH.o.2.1;omega) (by have h9:=sd ns.reverse (fun x hx=>HH.o.2.2 x (List.mem_reverse.1 hx));rw [List.length_reverse] at h9;have:=HH.o.2.1;omega);clear h1 h2 C1)
    | (go_at_call 78;refine C2.mono ?_;rintro e w2 ⟨rfl,h3⟩;have HE:=hid h3;clear h3 C2))
   go_ret
   exact ⟨_,rfl,Below.trans (B:=w.heap.size) HC.o.1 (HE.o.mono HC.o.1.size)⟩
  | cons nm rest=>
   have hkZ:k<Z:=by
    have:=congrArg List.length hdr
    rw [List.length_drop,HZ.o] at this
    simp at this
    omega
   have hsp:=HI.o.2.1
   rw [hdr] at hsp
   obtain ⟨hD,u,e,hsp2⟩:=hsp
   have hlt:=(gS e)
   have e2:=(HI.o.1.block sb hlt).trans e
   have q0:wr.cell? ⟨sb,0,none⟩=some (.pointer (some ⟨u,0,none⟩)):=by simp [World.cell?,e2]
   have q1:wr.cell? ⟨sb,1,none⟩=some (.string nm):=by simp [World.cell?,e2]
   have hnx:ns.drop (k+1)=rest:=by rw [← List.tail_drop,hdr];rfl
   have htk:ns.take (k+1)=ns.take k++[nm]:=by
    rw [List.take_add_one]
    congr 1
    have:ns[k]?=some nm:=by
     have h9:(ns.drop k)[0]?=some nm:=by rw [hdr];rfl
     rwa [List.getElem?_drop] at h9
    rw [this];rfl
   have hlk:(ns.take k).length=k:=by rw [List.length_take,HZ.o];omega
   have HN:=hid (⟨hsp2,hnx,htk,hlk⟩:_∧_∧_∧_)
   have OW:Hid ((wr.alloc (.cells #[.string nm] 9)).ownsRow w.heap.size 9 1 (.slice ao k uc) k ((ns.take k).map Value.string)):=by
    have h9:=HI.o.2.2
    unfold jz at h9
    rw [hlk] at h9
    exact World.ownsRow.alloc h9 _
   have q2:Hid (∀ w1:World,Below w.heap.size w w1→w1.cell? ⟨sb,0,none⟩=some (.pointer (some ⟨u,0,none⟩))):=fun w1 h=>by
    have e3:=(h.block sb hlt).trans e
    simp [World.cell?,e3]
   clear hsp2 hnx htk hlk hdr e e2 hD hlt
   go_wp2_with (at_builtin;refine wpList_append_own_at _ rfl _ _ 106 rfl w.heap.size 9 i0 (.string ⟨#[]⟩) 1 16 Tryz.underlying106 hi hz0 hz1 hz2 rfl (by decide) (.slice ao k uc) k ((ns.take k).map Value.string) rfl OW.o ⟨wr.heap.size,0,none⟩ 1 1 [.string nm] rfl rfl xV (fun u hu=>by simp at hu;subst hu;rfl) (by unfold maxLen;omega) (by omega) (by have:=HI.o.1.size;simp;omega) ?_;intro u' w5 ho5 hg5 _ hat5;have R5:Hid (Below w.heap.size w w5∧Spot w D (ns.drop (k+1)) u∧jz w5 w.heap.size u' (ns.take (k+1))):=by { refine ⟨ey HI.o.1 (fun g e=>(World.ownsRow.lt OW.o g e).1) hg5,by rw [HN.o.2.1];exact HN.o.1,?_⟩;unfold jz;rw [HN.o.2.2.1,lA,HN.o.2.2.2,List.map_append];exact ho5 };have q5:=q2.o w5 R5.o.1;obtain ⟨g',cap',rfl⟩:=yz ho5;clear ho5 hg5 hat5)
   go_roundw
   case rel=>exact ⟨k+1,u,_,_,by omega,rfl,rfl,R5.o⟩
   case measure=>simp;omega
end Go.Proofs.YtjikkhbcbfpocaaGreatDoor
