import Derived.Test.YtjikkhbcbfpocaaGreatDoorDC
set_option maxRecDepth 100000
set_option maxHeartbeats 4000000
namespace Go.Proofs.YtjikkhbcbfpocaaGreatDoor
open Go.RowKit Go.Shelf
attribute [local go_sem] Oper.semAt_some
def bM (W:World) (Kr o:Nat) (l:List (ByteArray × List Nat)):Prop:=∀ i x,l[i]?=some x→W.cell? ⟨Kr,(o+i)*34,none⟩=some (.string x.1)∧Lies W Kr ((o+i)*34+2) (x.2.map Su.vb).toArray
theorem bM.same {W W':World} {Kr o:Nat} {l:List (ByteArray × List Nat)} (h:bM W Kr o l) (hb:W'.heap[Kr]?=W.heap[Kr]?):bM W' Kr o l:=fun i x hx=>⟨(World.cell?_of_block (w:=W) (a:=⟨Kr,(o+i)*34,none⟩) hb).trans (h i x hx).1,(h i x hx).2.same hb⟩
theorem bM.take {W:World} {Kr o:Nat} {l:List (ByteArray × List Nat)} (h:bM W Kr o l) (k:Nat):bM W Kr o (l.take k):=fun i x hx=>by
 rw [List.getElem?_take] at hx
 split at hx
 ·exact h i x hx
 ·cases hx
theorem bM.drop {W:World} {Kr o:Nat} {l:List (ByteArray × List Nat)} (h:bM W Kr o l) (k:Nat):bM W Kr (o+k) (l.drop k):=fun i x hx=>by
 rw [List.getElem?_drop] at hx
 rw [Nat.add_assoc]
 exact h (k+i) x hx
def tT (x:ByteArray × List Nat):Prop:=x.1.size≤100000∧x.2.length=32∧Su.Bytes x.2
theorem jR {a b:List Nat} (ha:Su.Bytes a) (hb:Su.Bytes b):Su.Bytes (a++b):=fun x hx=>by
 rcases List.mem_append.1 hx with h | h
 ·exact ha x h
 ·exact hb x h
theorem qJ {x:Nat} {a:List Nat} (h:x<256) (ha:Su.Bytes a):Su.Bytes (x::a):=fun y hy=>by
 rcases List.mem_cons.1 hy with rfl | h
 ·assumption
 ·exact ha y h
theorem aE (l:List Nat):Su.Bytes (shaL l):=by
 have h4:∀ n,Su.Bytes (Su.Sha.four n):=fun n x hx=>by
  simp only [Su.Sha.four,List.mem_cons,List.not_mem_nil,or_false] at hx
  rcases hx with rfl | rfl | rfl | rfl<;>exact Nat.mod_lt _ (by decide)
 show Su.Bytes (Su.Sha.shaF Su.Sha.mix l)
 unfold Su.Sha.shaF Su.Sha.out
 exact jR (h4 _) (jR (h4 _) (jR (h4 _) (jR (h4 _) (jR (h4 _) (jR (h4 _) (jR (h4 _) (h4 _)))))))
theorem io {x:ByteArray × List Nat} (h:tT x):Su.Bytes (zK x.1 x.2):=qJ (by decide) (jR (qI _) (jR (dg _) h.2.2))
theorem py {x:ByteArray × List Nat} (h:tT x):1≤(zK x.1 x.2).length∧(zK x.1 x.2).length≤1000000:=by
 obtain ⟨h1,h2,_⟩:=h
 have:=jT (n:=x.1.size) (by omega)
 have:=xq x.1
 simp only [zK,lC,lA]
 omega
theorem dw:Su.Bytes jl:=fun x hx=>by rw [List.eq_of_mem_replicate hx];decide
theorem ag (l:List (ByteArray × List Nat)):Su.Bytes (topT l).1:=by
 match l with
 | []=>rw [topT];exact dw
 | [x]=>rw [topT];exact aE _
 | x::y::t=>rw [topT];exact aE _
section
variable {St:List (List Nat)→(Nat→Prop)→World→Prop} {lo Wb:Nat} {c1 c2 c3:Addr}
def pz (St:List (List Nat)→(Nat→Prop)→World→Prop) (Wb:Nat) (c1 c2 c3:Addr) (l:List (ByteArray × List Nat)):Prop:=∀ (pre:List (List Nat)) (M:Nat→Prop) (W:World) (Kr o cap:Nat),St pre M W→qT W Wb (.pointer (some c1)) (.pointer (some c2)) (.pointer (some c3))→¬ M Wb→Su.Tabs W→bM W Kr o l→Kr<W.heap.size→¬ M Kr→l.length≤cap→pre.length+(topT l).2.length≤1000000→
 Calls Tryz.prog 157 #[.pointer (some ⟨Wb,0,none⟩),.slice (some ⟨Kr,o*34,none⟩) l.length cap] W fun e W'=>e=.returned (.agg (((topT l).1).map Su.vb).toArray)∧Po St pre (topT l).2 M W W'
theorem Po.nil {pre:List (List Nat)} {M:Nat→Prop} {W W':World} (h:St pre M W') (hf:Fr M W W'):Po St pre [] M W W':=⟨M,by simpa using h,fun b h=>.inl h,hf⟩
theorem tU (hC:CB St lo Wb (.pointer (some c1)) (.pointer (some c2)) (.pointer (some c3))) {pre:List (List Nat)} {M:Nat→Prop} {W:World} {a:Option Addr} {cap:Nat} (hS:St pre M W):
  Calls Tryz.prog 157 #[.pointer (some ⟨Wb,0,none⟩),.slice a 0 cap] W fun e W'=>e=.returned (.agg (((topT []).1).map Su.vb).toArray)∧Po St pre (topT []).2 M W W':=by
 have hb:=hC.bnd hS
 rw [topT]
 obtain ⟨B,hBs⟩:∃ B,W.heap.size=B:=⟨_,rfl⟩
 have HG:=hid (qX W 22 z22 z22)
 have HS:Hid (St pre M ((W.alloc (.cells z22 22)).setRow W.heap.size z22)):=hC.keep hS (KeepM.of_G HG.o.1 fun b h=>(hb.2 b h).2)
 rw [hBs] at HG HS
 clear hb hS
 go_enter Tryz.func157,Tryz.ntmps157
 go_wp2_with (first
  | ((with_reducible refine jF (.pointer (some ⟨B,0,none⟩)) (W.alloc (.cells z22 22)) ?_ ?_);exact jG 22 z22 rfl qm _ _ hBs)
  | ((with_reducible refine jC ((W.alloc (.cells z22 22)).setRow B z22) ?_ ?_);exact jL 22 _ _ rfl B z22 z22 rfl (by rfl) _ (by rw [← hBs];exact World.alloc_heap_new W _) (by rw [jx,ju]) rfl (kV _)))
 exact bodyPost_ret (results_cell_row (P:=Tryz.prog) (p:=4) (ty:=22) rfl _ _ B 22 z22 (0,0) _ rfl HG.o.2.1 Tryz.underlying22 rfl (by rw [jx,ju])) rfl ⟨rfl,Po.nil HS.o (Fr.of_G HG.o.1)⟩
theorem vl (hC:CB St lo Wb (.pointer (some c1)) (.pointer (some c2)) (.pointer (some c3))) (x:ByteArray × List Nat) (hx:tT x):pz St Wb c1 c2 c3 [x]:=by
 intro pre M W Kr o cap hS hW hWM hT hK hKl hKM hcap hP
 have HP:Hid (pre.length<1000000):=by rw [topT] at hP;simp only [lC,lN] at hP;exact (by omega:pre.length<1000000)
 clear hP
 have hb:=hC.bnd hS
 obtain ⟨hn,hh,hB⟩:=hx
 obtain ⟨B,hBs⟩:∃ B,W.heap.size=B:=⟨_,rfl⟩
 obtain ⟨w1,hw1⟩:∃ w1,w1=W.alloc (.cells z22 22):=⟨_,rfl⟩
 have hG:G W w1:=by rw [hw1];exact G.alloc _ _
 have hK1:=hK.same (W':=w1) (hG.block Kr hKl) 0 x rfl
 rw [Nat.add_zero] at hK1
 have HH:=hid (⟨hb,hG,hC.keep hS (KeepM.of_G hG fun b h=>(hb.2 b h).2),hW.fr (M:=M) (Fr.of_G hG) hWM,hT.up hG,hK1,(by rw [hw1];exact World.alloc_heap_new W (.cells z22 22):w1.heap[W.heap.size]?=some (.cells z22 22 (0,0))),(by rw [hw1];simp:w1.heap.size=W.heap.size+1)⟩:_∧_∧_∧_∧_∧_∧_∧_)
 have HL:=hid (⟨io ⟨hn,hh,hB⟩,py ⟨hn,hh,hB⟩⟩:_∧_)
 have q1:=jB (hG.lies hW.lies) 1 _ rfl
 rw [hw1] at q1
 have HX:Hid (((shaL (zK x.1 x.2)).map Su.vb).toArray.size=32∧((shaL (zK x.1 x.2)).map Su.vb).toArray.all (·.oneCell')=true∧(x.2.map Su.vb).toArray.size=32):=⟨by simp [qg],kV _,by simp [hh]⟩
 have CL:Hid (∀ w,Calls Tryz.prog 175 #[.string x.1,.agg (x.2.map Su.vb).toArray] w fun e w'=>∃ u,e=.returned u∧Su.Owns w' w.heap.size u (zK x.1 x.2)∧G w w'):=fun w=>tM x.1 x.2 w hh hn
 have CA:Hid (∀ w u,G w1 w→Su.Has w u (zK x.1 x.2)→Calls Tryz.prog 153 #[.pointer (some ⟨Wb,0,none⟩),u] w fun e W'=>e=.returned (.agg ((shaL (zK x.1 x.2)).map Su.vb).toArray)∧Po St pre [zK x.1 x.2] M w W'):=fun w u hg hu=>
  bU hC (hC.keep HH.o.2.2.1 (KeepM.of_G hg fun b h=>by have:=(hb.2 b h).2;have:=HH.o.2.2.2.2.2.2.2;omega)) (HH.o.2.2.2.1.fr (M:=M) (Fr.of_G hg) hWM) (HH.o.2.2.2.2.1.up hg) hu HL.o.1 HL.o.2.1 HL.o.2.2 HP.o
 rw [topT]
 generalize zK x.1 x.2=T at *
 generalize ((shaL T).map Su.vb).toArray=X at *
 generalize (x.2.map Su.vb).toArray=XH at *
 generalize x.1=nm at *
 rw [hBs] at HH
 clear hS hW hT hK hK1 hG hn hh hB
 refine (callsIn_wide (n:=3)).1 ?_
 refine callsIn_of_wp_marks Tryz.func157 rfl trivial (Go.wpIn_mono (Q:=RetM Tryz.f157 _) ?_ RetM.post) rfl
 simp only [Tryz.ntmps157,List.size_toArray,lC,lN,Nat.reduceAdd,Nat.reduceSub,Array.replicate_succ,Array.replicate_zero,List.push_toArray,List.append_toArray,List.nil_append,List.cons_append]
 gi_wp2_with ((with_reducible refine qP (.pointer (some ⟨B,0,none⟩)) (W.alloc (.cells z22 22)) ?_ ?_ ?_ ?_ ?_);rfl;exact jG 22 z22 rfl qm _ _ hBs;(intro c h;cases h);exact fun _ _=>trivial)
 rw [← hw1]
 refine qj 10 ?_
 have HD:Hid (G w1 w1.drew):=G.drew w1
 generalize w1.drew=w2 at *
 refine tX 0 21 (.pointer (some ⟨Wb,0,none⟩)) (fun wz hz=>?_) ?_
 ·rfl
 refine tX 1 22 (.slice (some ⟨Kr,o*34,none⟩) 1 cap) (fun wz hz=>?_) ?_
 ·rfl
 refine tX 2 23 (.pointer (some ⟨Kr,o*34,none⟩)) (fun wz hz=>?_) ?_
 ·go_simp
 refine tX 3 24 (.pointer (some ⟨Kr,o*34,none⟩)) (fun wz hz=>?_) ?_
 ·go_simp
 refine tX 4 25 (.string nm) (fun wz hz=>?_) ?_
 ·have y:=(HD.o.trans hz).cell HH.o.2.2.2.2.2.1.1;go_simp
 refine tX 5 26 (.slice (some ⟨Kr,o*34,none⟩) 1 cap) (fun wz hz=>?_) ?_
 ·rfl
 refine tX 6 27 (.pointer (some ⟨Kr,o*34,none⟩)) (fun wz hz=>?_) ?_
 ·go_simp
 refine tX 7 28 (.pointer (some ⟨Kr,o*34+2,none⟩)) (fun wz hz=>?_) ?_
 ·go_simp
 refine tX 8 29 (.agg XH) (fun wz hz=>?_) ?_
 ·exact jv 22 _ rfl Kr (o*34+2) rfl XH _ ((HD.o.trans hz).lies HH.o.2.2.2.2.2.1.2) Tryz.underlying22 rfl (by rw [jx,HX.o.2.2])
 refine ko [9] (by kernel_rfl) (by simp) fun w3 hg3=>?_
 refine kX 9 30 175 #[.string nm,.agg XH] rfl (by kernel_rfl) (by go_simp) ((callsIn_wide.2 (CL.o w3)).mono ?_)
 rintro e w4 ⟨u4,rfl,h4,hg4⟩
 refine ⟨_,rfl,hg4,?_⟩
 try simp only [Act.put,sA,sB,sC]
 refine dL (by kernel_rfl) fun w9 hg9=>?_
 have hz9:G w1 w9:=((HD.o.trans hg3).trans hg4).trans hg9
 refine rI [10] ?_
 refine a0P jE 10 31 153 #[.pointer (some ⟨Wb,0,none⟩),u4] rfl rfl (by kernel_rfl) (by intro c h;cases h) (by go_simp) ?_
 refine (callsIn_wide.2 (CA.o w9 u4 hz9 (Su.Owns.has (Su.Owns.below h4 hg9 (Nat.le_refl _))))).mono ?_
 rintro e w10 ⟨rfl,M',hS',hM',hf⟩
 refine ⟨_,rfl,?_⟩
 try simp only [Act.put,sA,sB,sC]
 have hnB:¬ M B:=fun h=>by have:=(HH.o.1.2 B h).2;omega
 have hBl:B<w9.heap.size:=by have:=hz9.size;have:=HH.o.2.2.2.2.2.2.2;omega
 have hv:w10.heap[B]?=some (.cells z22 22 (0,0)):=(hf.same B hBl hnB).trans ((hz9.block B (by have:=HH.o.2.2.2.2.2.2.2;omega)).trans HH.o.2.2.2.2.2.2.1)
 refine rI [11] ?_
 refine wH jE 11 (w10.setRow B X) rfl rfl (by kernel_rfl) (by intro c h;cases h) (jL 22 _ _ rfl B X z22 rfl rfl _ hv (by rw [jx,HX.o.1]) (by rw [ju,HX.o.1]) HX.o.2.1) ?_
 try simp only [List.setIfInBounds_toArray,List.set_cons_zero,List.set_cons_succ]
 refine dI ?_
 have HF:Hid ((w10.setRow B X).heap[B]?=some (.cells X 22 (0,0))∧Po St pre [T] M W (w10.setRow B X)):=by
  refine ⟨setRow_heap _ _ _ _ _ _ hv,M',hC.keep hS' (KeepM.row _ _ _ fun h=>?_),fun b h=>?_,Fr.row _ _ _ _ _ ((Fr.of_G (HH.o.2.1.trans hz9)).trans (fun b h=>.inl h) hf) (by omega)⟩
  ·rcases hM' B h with h | h
   ·exact hnB h
   ·omega
  ·rcases hM' b h with h | h
   ·exact .inl h
   ·have:=(HH.o.2.1.trans hz9).size;exact .inr (by omega)
 clear hS' hM' hf hv h4
 gi_wp2_with fail
 exact ⟨_,results_cell_row (P:=Tryz.prog) (p:=4) (ty:=22) rfl _ _ B 22 X (0,0) _ rfl HF.o.1 Tryz.underlying22 rfl (by rw [jx,HX.o.1]),rfl,HF.o.2⟩
theorem kM {M M1:Nat→Prop} {A b:Nat} (hM:∀ b,M1 b→M b∨A≤b) (hn:¬ M b) (hb:b<A):¬ M1 b:=fun h=>by
 rcases hM b h with h | h
 ·exact hn h
 ·omega
theorem Po.trans {pre t1 t2:List (List Nat)} {M M1:Nat→Prop} {A B C:World} (hf:Fr M A B) (hM:∀ b,M1 b→M b∨A.heap.size≤b) (h:Po St (pre++t1) t2 M1 B C):Po St pre (t1++t2) M A C:=by
 obtain ⟨M2,h1,h2,h3⟩:=h
 refine ⟨M2,by rw [← List.append_assoc];exact h1,fun b hb=>?_,hf.trans hM h3⟩
 rcases h2 b hb with h | h
 ·exact hM b h
 ·exact .inr (Nat.le_trans hf.size h)
theorem tV (hC:CB St lo Wb (.pointer (some c1)) (.pointer (some c2)) (.pointer (some c3))) (x y:ByteArray × List Nat) (t:List (ByteArray × List Nat)) (hn:(x::y::t).length≤1000000)
  (h1:pz St Wb c1 c2 c3 ((x::y::t).take (xT (x::y::t).length))) (h2:pz St Wb c1 c2 c3 ((x::y::t).drop (xT (x::y::t).length))):pz St Wb c1 c2 c3 (x::y::t):=by
 intro pre M W Kr o cap hS hW hWM hT hK hKl hKM hcap hP
 rw [topT] at hP ⊢
 simp only [lA,List.length_singleton] at hP
 simp only
 have hl2:2≤(x::y::t).length:=by simp
 generalize x::y::t=l at *
 obtain ⟨n,hnl⟩:∃ n,l.length=n:=⟨_,rfl⟩
 obtain ⟨H,hH⟩:∃ H,xT l.length=H:=⟨_,rfl⟩
 have hHl:=ae hl2
 rw [hH] at h1 h2 hHl hP ⊢
 have CH:Hid (∀ w,Calls Tryz.prog 176 #[.int .i64 n] w fun e w'=>e=.returned (.int .i64 H)∧w'=w):=fun w=>by rw [← hH,hnl];exact tK n (by omega) (by omega) w
 rw [hnl] at hl2 hHl hcap hn ⊢
 have hb:=hC.bnd hS
 obtain ⟨B,hBs⟩:∃ B,W.heap.size=B:=⟨_,rfl⟩
 obtain ⟨w1,hw1⟩:∃ w1,w1=W.alloc (.cells z22 22):=⟨_,rfl⟩
 have hG:G W w1:=by rw [hw1];exact G.alloc _ _
 have hs1:w1.heap.size=B+1:=by rw [hw1];simp [hBs]
 have hvB:w1.heap[B]?=some (.cells z22 22 (0,0)):=by rw [hw1,← hBs];exact World.alloc_heap_new W _
 have hnB:¬ M B:=fun h=>by have:=(hb.2 B h).2;omega
 have q1:=jB (hG.lies hW.lies) 1 _ rfl
 rw [hw1] at q1
 have C1:=h1 pre M w1 Kr o cap (hC.keep hS (KeepM.of_G hG fun b h=>(hb.2 b h).2)) (hW.fr (M:=M) (Fr.of_G hG) hWM) hWM (hT.up hG) ((hK.same (hG.block Kr hKl)).take H) (by omega) hKM (by rw [List.length_take];omega) (by omega)
 rw [List.length_take,Nat.min_eq_left (by omega)] at C1
 have HA:=hid (⟨hb,hG,hs1,hvB,hnB,hWM,hKM,hW.fr (M:=M) (Fr.of_G hG) hWM,hT.up hG,hK.same (hG.block Kr hKl),hKl⟩:_∧_∧_∧_∧_∧_∧_∧_∧_∧_∧_)
 have HX:Hid (∀ l':List (ByteArray × List Nat),((topT l').1.map Su.vb).toArray.size=32∧((topT l').1.map Su.vb).toArray.all (·.oneCell')=true):=fun l'=>⟨by simp [aC],kV _⟩
 have C2:Hid (∀ pre' M' W',St pre' M' W'→qT W' Wb (.pointer (some c1)) (.pointer (some c2)) (.pointer (some c3))→¬ M' Wb→Su.Tabs W'→bM W' Kr o l→Kr<W'.heap.size→¬ M' Kr→pre'.length+(topT (l.drop H)).2.length≤1000000→
   Calls Tryz.prog 157 #[.pointer (some ⟨Wb,0,none⟩),.slice (some ⟨Kr,o*34+H*34,none⟩) (n-H) (cap-H)] W' fun e W2=>e=.returned (.agg (((topT (l.drop H)).1).map Su.vb).toArray)∧Po St pre' (topT (l.drop H)).2 M' W' W2):=fun pre' M' W' a1 a2 a3 a4 a5 a6 a7 a8=>by
  have:=h2 pre' M' W' Kr (o+H) (cap-H) a1 a2 a3 a4 (a5.drop H) a6 a7 (by rw [List.length_drop];omega) a8
  rw [List.length_drop,hnl,Nat.add_mul] at this
  exact this
 obtain ⟨ta,hta⟩:∃ ta,topT (l.take H)=ta:=⟨_,rfl⟩
 obtain ⟨tb,htb⟩:∃ tb,topT (l.drop H)=tb:=⟨_,rfl⟩
 have HP:Hid (pre.length+(ta.2.length+(tb.2.length+1))≤1000000):=by rw [← hta,← htb];exact (by omega:_≤_)
 clear hP
 have HXa:=HX.o (l.take H)
 have HXb:=HX.o (l.drop H)
 have HT:Hid (ta.1.length=32∧tb.1.length=32∧Su.Bytes ta.1∧Su.Bytes tb.1):=by rw [← hta,← htb];exact ⟨aC _,aC _,ag _,ag _⟩
 rw [hta] at C1 HXa ⊢
 rw [htb] at C2 HXb ⊢
 have CI:Hid (∀ w,Calls Tryz.prog 177 #[.agg (ta.1.map Su.vb).toArray,.agg (tb.1.map Su.vb).toArray] w fun e w'=>∃ u,e=.returned u∧Su.Owns w' w.heap.size u (yM ta.1 tb.1)∧G w w'):=fun w=>pi ta.1 tb.1 w HT.o.1 HT.o.2.1
 have HI:Hid (Su.Bytes (yM ta.1 tb.1)∧1≤(yM ta.1 tb.1).length∧(yM ta.1 tb.1).length≤1000000∧((shaL (yM ta.1 tb.1)).map Su.vb).toArray.size=32∧((shaL (yM ta.1 tb.1)).map Su.vb).toArray.all (·.oneCell')=true):=by
  obtain ⟨g1,g2,g3,g4⟩:=HT.o
  refine ⟨qJ (by decide) (jR g3 g4),?_,?_,by simp [qg],kV _⟩<;>simp only [yM,lC,lA]<;>omega
 generalize yM ta.1 tb.1=TI at *
 generalize (ta.1.map Su.vb).toArray=XA at *
 generalize (tb.1.map Su.vb).toArray=XB at *
 obtain ⟨XI,hXI⟩:∃ XI,((shaL TI).map Su.vb).toArray=XI:=⟨_,rfl⟩
 rw [hXI] at HI ⊢
 have HXI:=hid hXI
 have hn1:((n:Int)==0)=false:=by simp;omega
 have hn2:((n:Int)==1)=false:=by simp;omega
 clear hS hW hWM hT hK hKM hb hG hs1 hvB hnB h1 h2 HX hta htb hnl hH hXI
 go_enter Tryz.func157,Tryz.ntmps157
 go_upto_region 5 with ((with_reducible refine jF (.pointer (some ⟨B,0,none⟩)) (W.alloc (.cells z22 22)) ?_ ?_);exact jG 22 z22 rfl qm _ _ hBs)
 rw [← hw1]
 clear q1 hw1
 have hHn:(H:Int)≤cap:=by omega
 go_upto_region 7 with (first
  | (go_at_call 176;refine (CH.o _).mono ?_;rintro e w' ⟨rfl,hw'⟩;replace hw':=hw'.symm;subst hw')
  | (go_at_call 157;refine C1.mono ?_;rintro e w2 ⟨rfl,M1,hS1,hM1,hf1⟩;have HS1:=hid (⟨hS1,hM1,hf1⟩:_∧_∧_);clear hS1 hM1 hf1 C1;obtain ⟨B6,hB6⟩:∃ B6,w2.heap.size=B6:=⟨_,rfl⟩)
  | ((with_reducible refine jF (.pointer (some ⟨B6,0,none⟩)) (w2.alloc (.cells z22 22)) ?_ ?_);exact jG 22 z22 rfl qm _ _ hB6)
  | ((with_reducible refine jC ((w2.alloc (.cells z22 22)).setRow B6 XA) ?_ ?_);exact jL 22 _ _ rfl B6 XA z22 rfl rfl _ (by rw [← hB6];exact World.alloc_heap_new w2 _) (by rw [jx,HXa.1]) (by rw [ju,HXa.1]) HXa.2))
 try simp only [Act.put,sA,sB,sC]
 have N4:=qX w2 22 z22 XA
 rw [hB6] at N4
 generalize (w2.alloc (.cells z22 22)).setRow B6 XA=w4 at *
 obtain ⟨hb,hG,hs1,hvB,hnB,hWM,hKM,hW1,hT1,hK1,hKl⟩:=HA.o
 obtain ⟨hS1,hM1,hf1⟩:=HS1.o
 have hb1:=hC.bnd hS1
 have hz12:=hf1.size
 have hz24:=N4.1.size
 have hf4:Fr M w1 w4:=hf1.trans hM1 (Fr.of_G N4.1)
 have hnB1:¬ M1 B:=kM hM1 hnB (by omega)
 have hnW1:¬ M1 Wb:=kM hM1 hWM (by have:=hW1.lt;omega)
 have hnK1:¬ M1 Kr:=kM hM1 hKM (by omega)
 have hn61:¬ M1 B6:=fun h=>by have:=(hb1.2 B6 h).2;omega
 have HB:=hid (⟨hC.keep hS1 (KeepM.of_G N4.1 fun b h=>(hb1.2 b h).2),hM1,hf4,hW1.fr hf4 hWM,hnW1,Tabs.fr hT1 hf4 (fun b h=>(hb.2 b h).1) (by omega) hC.four,hK1.same (hf4.same Kr (by omega) hKM),(by omega:Kr<w4.heap.size),hnK1,N4.2.1,hn61,(hf4.same B (by omega) hnB).trans hvB,hnB1,(by omega:B6<w4.heap.size),(by omega:B<w4.heap.size)⟩:_∧_∧_∧_∧_∧_∧_∧_∧_∧_∧_∧_∧_∧_∧_)
 have HW:=hid (⟨hG,hs1,hb.1⟩:_∧_∧_)
 clear hb hG hs1 hvB hnB hWM hKM hW1 hT1 hK1 hKl hS1 hM1 hf1 hb1 hz12 hz24 hf4 hnB1 hnW1 hnK1 hn61 N4 HA HS1 hB6
 have hcH:¬ cap=H:=by omega
 have hHn2:(H:Int)≤n:=by omega
 go_upto_region 8 with (first
  | (go_at_call 157;refine (C2.o _ _ _ HB.o.1 HB.o.2.2.2.1 HB.o.2.2.2.2.1 HB.o.2.2.2.2.2.1 HB.o.2.2.2.2.2.2.1 HB.o.2.2.2.2.2.2.2.1 HB.o.2.2.2.2.2.2.2.2.1 (by have:=HP.o;simp only [lA];omega)).mono ?_;rintro e w5 ⟨rfl,M2,hS2,hM2,hf2⟩;have HS2:=hid (⟨hS2,hM2,hf2⟩:_∧_∧_);clear hS2 hM2 hf2 C2;obtain ⟨B7,hB7⟩:∃ B7,w5.heap.size=B7:=⟨_,rfl⟩)
  | ((with_reducible refine jF (.pointer (some ⟨B7,0,none⟩)) (w5.alloc (.cells z22 22)) ?_ ?_);exact jG 22 z22 rfl qm _ _ hB7)
  | ((with_reducible refine jC ((w5.alloc (.cells z22 22)).setRow B7 XB) ?_ ?_);exact jL 22 _ _ rfl B7 XB z22 rfl rfl _ (by rw [← hB7];exact World.alloc_heap_new w5 _) (by rw [jx,HXb.1]) (by rw [ju,HXb.1]) HXb.2))
 try simp only [Act.put,sA,sB,sC]
 have N7:=qX w5 22 z22 XB
 rw [hB7] at N7
 generalize (w5.alloc (.cells z22 22)).setRow B7 XB=w7 at *
 obtain ⟨hS1,hM1,hf4,hW4,hnW1,hT4,_,hKl4,_,hv6,hn61,hvB4,hnB1,h6l,hBl⟩:=HB.o
 obtain ⟨hS2,hM2,hf2⟩:=HS2.o
 have hb1:=hC.bnd hS1
 have hb2:=hC.bnd hS2
 have hz45:=hf2.size
 have hz57:=N7.1.size
 have hf7:Fr M1 w4 w7:=hf2.trans hM2 (Fr.of_G N7.1)
 have hnB2:¬ M2 B:=kM hM2 hnB1 hBl
 have hnW2:¬ M2 Wb:=kM hM2 hnW1 hW4.lt
 have hv67:=(hf7.same B6 h6l hn61).trans hv6
 have HD:=hid (⟨hC.keep hS2 (KeepM.of_G N7.1 fun b h=>(hb2.2 b h).2),hM2,hf7,hW4.fr hf7 hnW1,hnW2,Tabs.fr hT4 hf7 (fun b h=>(hb1.2 b h).1) hb1.1 hC.four,hv67,N7.2.1,(hf7.same B hBl hnB1).trans hvB4,hnB2,(by omega:B<w7.heap.size),hM1,hf4,(by omega:w4.heap.size≤w7.heap.size)⟩:_∧_∧_∧_∧_∧_∧_∧_∧_∧_∧_∧_∧_∧_)
 clear hS1 hM1 hf4 hW4 hnW1 hT4 hKl4 hv6 hn61 hvB4 hnB1 h6l hBl hS2 hM2 hf2 hb1 hb2 hz45 hz57 hf7 hnB2 hnW2 hv67 N7 HB HS2 hB7
 have LA:Hid (Lies w7 B6 0 XA∧Lies w7 B7 0 XB):=⟨fun j u hj=>by
   have h':=HD.o.2.2.2.2.2.2.1
   simp only [World.cell?,h',Nat.zero_add];exact hj,fun j u hj=>by
   have h':=HD.o.2.2.2.2.2.2.2.1
   simp only [World.cell?,h',Nat.zero_add];exact hj⟩
 go_wp2_with (first
  | ((with_reducible refine jA (.agg XA) ?_ ?_);exact jv 22 _ rfl B6 0 rfl XA _ LA.o.1 Tryz.underlying22 rfl (by rw [jx,HXa.1]))
  | ((with_reducible refine jA (.agg XB) ?_ ?_);exact jv 22 _ rfl B7 0 rfl XB _ LA.o.2 Tryz.underlying22 rfl (by rw [jx,HXb.1]))
  | (go_at_call 177;refine (CI.o w7).mono ?_;rintro e w8 ⟨u8,rfl,h8,hg8⟩;have H8:=hid (⟨h8,hg8⟩:_∧_);clear h8 hg8)
  | (go_at_call 153;refine (bU hC (hC.keep HD.o.1 (KeepM.of_G H8.o.2 fun b h=>by have:=((hC.bnd HD.o.1).2 b h).2;omega)) (HD.o.2.2.2.1.fr (M:=M2) (Fr.of_G H8.o.2) HD.o.2.2.2.2.1) (HD.o.2.2.2.2.2.1.up H8.o.2) (Su.Owns.has H8.o.1) HI.o.1 HI.o.2.1 HI.o.2.2.1 (by have:=HP.o;simp only [lA];omega)).mono ?_;rintro e w9 ⟨rfl,M3,hS3,hM3,hf3⟩;have h3B:=(hf3.same B (by have:=HD.o.2.2.2.2.2.2.2.2.2.2.1;have:=H8.o.2.size;omega) HD.o.2.2.2.2.2.2.2.2.2.1).trans ((H8.o.2.block B HD.o.2.2.2.2.2.2.2.2.2.2.1).trans HD.o.2.2.2.2.2.2.2.2.1);have HE:=hid (⟨hS3,hM3,hf3,h3B⟩:_∧_∧_∧_);clear hS3 hM3 hf3 h3B;rw [HXI.o])
  | ((with_reducible refine jC (w9.setRow B XI) ?_ ?_);exact jL 22 _ _ rfl B XI z22 rfl rfl _ HE.o.2.2.2 (by rw [jx,HI.o.2.2.2.1]) (by rw [ju,HI.o.2.2.2.1]) HI.o.2.2.2.2))
 obtain ⟨hS3,hM3,hf3,h3B⟩:=HE.o
 obtain ⟨hS2,hM2,hf7,_,_,_,_,_,_,hnB2,hBl7,hM1,hf4,hz47⟩:=HD.o
 refine bodyPost_ret (results_cell_row (P:=Tryz.prog) (p:=4) (ty:=22) rfl _ _ B 22 XI (0,0) _ rfl (setRow_heap _ _ _ _ _ _ h3B) Tryz.underlying22 rfl (by rw [jx,HI.o.2.2.2.1])) rfl ⟨rfl,?_⟩
 have hz78:=H8.o.2.size
 have z1:=HW.o.1.size
 have z2:=HW.o.2.1
 have z4:=hf4.size
 have F1:Fr M W w4:=(Fr.of_G HW.o.1).trans (fun b h=>.inl h) hf4
 have m1:∀ b,M1 b→M b∨W.heap.size≤b:=fun b h=>(hM1 b h).imp id fun h=>by omega
 have F2:Fr M W w8:=(F1.trans m1 hf7).trans (fun b h=>.inl h) (Fr.of_G H8.o.2)
 have m2:∀ b,M2 b→M b∨W.heap.size≤b:=fun b h=>(hM2 b h).elim (m1 b) fun h=>.inr (by omega)
 have F3:Fr M W w9:=F2.trans m2 hf3
 refine ⟨M3,hC.keep (by simpa using hS3) (KeepM.row _ _ _ (kM hM3 hnB2 (by omega))),fun b h=>(hM3 b h).elim (m2 b) fun h=>.inr (by omega),Fr.row _ _ _ _ _ F3 (by omega)⟩
theorem ip (hC:CB St lo Wb (.pointer (some c1)) (.pointer (some c2)) (.pointer (some c3))):∀ (Z:Nat) (l:List (ByteArray × List Nat)),l.length<Z→1≤l.length→l.length≤1000000→(∀ x∈l,tT x)→pz St Wb c1 c2 c3 l
 | 0,_,h,_,_,_=>absurd h (Nat.not_lt_zero _)
 | _+1,[],_,h,_,_=>absurd h (by simp)
 | _+1,[x],_,_,_,hx=>vl hC x (hx x (by simp))
 | Z+1,x::y::t,hZ,_,hl,hx=>by
  have hh:=ae (n:=(x::y::t).length) (by simp)
  refine tV hC x y t hl (ip hC Z _ ?_ ?_ ?_ fun z hz=>hx z (List.mem_of_mem_take hz)) (ip hC Z _ ?_ ?_ ?_ fun z hz=>hx z (List.mem_of_mem_drop hz))
  all_goals
   simp only [List.length_take,List.length_drop]
   omega
end
end Go.Proofs.YtjikkhbcbfpocaaGreatDoor
namespace Go.Proofs.YtjikkhbcbfpocaaGreatDoor
open Go.RowKit
def zZ:List Kid→List (List Nat)→List Value
 | [],_=>[]
 | x::t,[]=>kcl x jl++zZ t []
 | x::t,h::hs=>kcl x h++zZ t hs
theorem gW:∀ l:List Kid,zZ l []=krow l
 | []=>rfl
 | x::t=>by rw [zZ,gW t];simp [krow]
def H32 (hs:List (List Nat)):Prop:=∀ h∈hs,h.length=32
theorem ek:∀ (l:List Kid) (hs:List (List Nat)) (k j:Nat) (x:Kid),H32 hs→l[k]?=some x→j<34→(zZ l hs)[k*34+j]?=(kcl x (hs.getD k jl))[j]?
 | [],_,_,_,_,_,h,_=>by simp at h
 | x::t,[],0,j,y,hh,h,hj=>by
  cases h
  rw [zZ,List.getElem?_append_left (by rw [zY _ rfl];omega)]
  simp
 | x::t,a::hs,0,j,y,hh,h,hj=>by
  cases h
  rw [zZ,List.getElem?_append_left (by rw [zY _ (hh a (by simp))];omega)]
  simp
 | x::t,[],k+1,j,y,hh,h,hj=>by
  rw [zZ,List.getElem?_append_right (by rw [zY _ rfl];omega),zY _ rfl,show (k+1)*34+j-34=k*34+j by omega,ek t [] k j y hh (by simpa using h) hj]
  simp
 | x::t,a::hs,k+1,j,y,hh,h,hj=>by
  rw [zZ,List.getElem?_append_right (by rw [zY _ (hh a (by simp))];omega),zY _ (hh a (by simp)),show (k+1)*34+j-34=k*34+j by omega,ek t hs k j y (fun b hb=>hh b (by simp [hb])) (by simpa using h) hj]
  simp
theorem gX:∀ (l:List Kid) (hs:List (List Nat)) (h:List Nat),H32 hs→h.length=32→hs.length<l.length→(zZ l hs).take (hs.length*34+2)++(h.map Su.vb++(zZ l hs).drop (hs.length*34+34))=zZ l (hs++[h])
 | [],_,_,_,_,hl=>by simp at hl
 | x::t,[],h,hh,h32,_=>by
  have e:(kcl x jl).length=34:=zY x rfl
  simp only [lN,Nat.zero_mul,Nat.zero_add,List.nil_append]
  rw [zZ,zZ,List.take_append_of_le_length (by omega),List.drop_append_of_le_length (by omega),List.drop_of_length_le (by omega)]
  simp [kcl]
 | x::t,a::hs,h,hh,h32,hl=>by
  have e:(kcl x a).length=34:=zY x (hh a (by simp))
  have ih:=gX t hs h (fun b hb=>hh b (by simp [hb])) h32 (by simpa using hl)
  simp only [List.cons_append]
  rw [zZ,zZ,← ih,lC,List.take_append,List.drop_append,e,List.take_of_length_le (by omega),List.drop_of_length_le (by omega),show (hs.length+1)*34+2-34=hs.length*34+2 by omega,show (hs.length+1)*34+34-34=hs.length*34+34 by omega]
  simp
def KRow (W:World) (Kr cap:Nat) (l:List Kid) (hs:List (List Nat)):Prop:=∃ cur,W.heap[Kr]?=some (.cells cur 267 (0,0))∧cur.size=cap*34∧l.length≤cap∧cur.toList.take (l.length*34)=zZ l hs
theorem KRow.lt {W:World} {Kr cap:Nat} {l:List Kid} {hs:List (List Nat)} (h:KRow W Kr cap l hs):Kr<W.heap.size:=by obtain ⟨_,h,_⟩:=h;exact (gS h)
theorem KRow.same {W W':World} {Kr cap:Nat} {l:List Kid} {hs:List (List Nat)} (h:KRow W Kr cap l hs) (hb:W'.heap[Kr]?=W.heap[Kr]?):KRow W' Kr cap l hs:=by obtain ⟨c,h1,h2⟩:=h;exact ⟨c,hb.trans h1,h2⟩
theorem KRow.at {W:World} {Kr cap:Nat} {l:List Kid} {hs:List (List Nat)} (h:KRow W Kr cap l hs) (hh:H32 hs) {k j:Nat} {x:Kid} {u:Value} (hx:l[k]?=some x) (hj:j<34) (hu:(kcl x (hs.getD k jl))[j]?=some u):W.cell? ⟨Kr,k*34+j,none⟩=some u:=by
 obtain ⟨cur,h1,h2,h3,h4⟩:=h
 have hk:=(List.getElem?_eq_some_iff.1 hx).1
 have e:=ek l hs k j x hh hx hj
 rw [← h4,List.getElem?_take,if_pos (by omega),hu] at e
 simp only [World.cell?,h1]
 simpa using e
theorem KRow.kids {W:World} {Kr cap:Nat} {l:List Kid} {hs:List (List Nat)} (h:KRow W Kr cap l hs) (hh:H32 hs):bM W Kr 0 ((l.map (·.nm)).zip hs):=fun i x hx=>by
 rw [List.getElem?_zip_eq_some] at hx
 obtain ⟨h1,h2⟩:=hx
 rw [List.getElem?_map] at h1
 cases hq:l[i]? with
 | none=>rw [hq] at h1;cases h1
 | some y=>
  rw [hq] at h1
  have h1':y.nm=x.1:=by simpa using h1
  have hg:hs.getD i jl=x.2:=by rw [List.getD_eq_getElem?_getD,h2];rfl
  have h32:=hh x.2 (List.mem_of_getElem? h2)
  rw [Nat.zero_add]
  refine ⟨?_,fun j u hj=>?_⟩
  ·have:=h.at hh (j:=0) hq (by omega) (u:=.string y.nm) (by simp [kcl])
   rw [← h1']
   exact this
  ·have hjl:j<32:=by have:=(gS hj);simpa [h32] using this
   have:=h.at hh (j:=j+2) hq (by omega) (u:=u) (by rw [hg];simpa [kcl] using hj)
   rw [show i*34+2+j=i*34+(j+2) by omega]
   exact this
theorem pw (A:List Value) (n i:Nat) (h:List Value) (hi:i+h.length≤n) (hn:n≤A.length):(A.take i++(h++A.drop (i+h.length))).take n=(A.take n).take i++(h++(A.take n).drop (i+h.length)):=by
 have e1:(A.take i).length=i:=by rw [List.length_take];omega
 rw [List.take_append,e1,List.take_append,List.take_take,List.take_take,Nat.min_eq_right (by omega),Nat.min_eq_left (by omega),List.take_of_length_le (l:=h) (by omega),List.drop_take,show n-i-h.length=n-(i+h.length) by omega]
theorem KRow.put {W:World} {Kr cap:Nat} {l:List Kid} {hs:List (List Nat)} {h:List Nat} (hK:KRow W Kr cap l hs) (hh:H32 hs) (h32:h.length=32) (hl:hs.length<l.length):∃ old fin,W.heap[Kr]?=some (.cells old 267 (0,0))∧hs.length*34+2+32≤old.size∧(old.toList.take (hs.length*34+2)++(h.map Su.vb).toArray.toList++old.toList.drop (hs.length*34+2+(h.map Su.vb).toArray.size)).toArray=fin∧KRow (W.setRow Kr fin) Kr cap l (hs++[h]):=by
 obtain ⟨cur,h1,h2,h3,h4⟩:=hK
 have hsz:(h.map Su.vb).toArray.size=32:=by simp [h32]
 have hm:(hs.length+1)*34≤l.length*34:=Nat.mul_le_mul_right _ hl
 have hm2:l.length*34≤cap*34:=Nat.mul_le_mul_right _ h3
 refine ⟨cur,_,h1,by omega,rfl,_,setRow_heap _ _ _ _ _ _ h1,?_,h3,?_⟩
 ·rw [hsz]
  simp only [List.size_toArray,lA,List.length_take,List.length_drop,List.length_map,h32,Array.length_toList]
  omega
 ·rw [hsz]
  simp only
  rw [List.append_assoc]
  have:=pw cur.toList (l.length*34) (hs.length*34+2) (h.map Su.vb) (by simp [h32];omega) (by simp [h2];omega)
  rw [List.length_map,h32] at this
  rw [this,h4,← gX l hs h hh h32 hl]
open Go.Shelf
def vOk (v:Vd):Prop:=(0≤v.mode∧v.mode<9223372036854775808)∧(0≤v.size∧v.size<9223372036854775808)∧Su.Bytes v.sum
def fOk:F→Prop
 | .nil=>True
 | .cons nm v _ ks r=>nm.size≤100000∧vOk v∧fOk ks∧fOk r
theorem dO {o:Oper} {a:Act} (x y:Operand) (ho:o.op=.store 22 x y) (g off:Nat) (c old fin:Array Value) (t:TypeId) (hx:a.eval x=.pointer (some ⟨g,off,none⟩)) (hy:a.eval y=.agg c) (w:World) (hg:w.heap[g]?=some (.cells old t (0,0)))
  (hs:c.size=32) (h1:c.all (·.oneCell')=true) (hoff:off+32≤old.size) (hfin:(old.toList.take off++c.toList++old.toList.drop (off+c.size)).toArray=fin):(execOp a.eval o).run Tryz.prog w=.ok .skip (w.setRow g fin):=by
 unfold execOp
 simp only [ho,hx,hy,Instr.storeAt,Instr.sureAddr,Sem.run_bind,Sem.run_pure,Result.andThen_ok,Su.aJ (w:=w) 22 g off c old fin t hg (by rw [jx,hs]) (by omega) h1 hfin]
def qf (l:List Kid):List (List Nat):=l.map fun x=>(jt x.v x.k.flat).1
def ql (l:List Kid):List (List Nat):=(l.map fun x=>(jt x.v x.k.flat).2).flatten
theorem bS (l:List Kid):H32 (qf l):=fun h hh=>by
 obtain ⟨x,_,rfl⟩:=List.mem_map.1 hh
 exact yN _ _
theorem gP (a b:List Kid):ql (a++b)=ql a++ql b:=by simp [ql]
theorem cP {α:Type} (l:List α) (k:Nat) (x:α) (h:l[k]?=some x):l.take (k+1)=l.take k++[x]:=by
 rw [List.take_add_one,h];rfl
theorem tN (l:List Kid) (k:Nat) (x:Kid) (h:l[k]?=some x):(ql (l.take k)).length+(jt x.v x.k.flat).2.length≤(ql l).length:=by
 have e:ql (l.take (k+1))=ql (l.take k)++(jt x.v x.k.flat).2:=by rw [cP l k x h,gP];simp [ql]
 have e2:ql l=ql (l.take (k+1))++ql (l.drop (k+1)):=by rw [← gP,List.take_append_drop]
 rw [e2,e]
 simp only [lA]
 omega
section
variable {St:List (List Nat)→(Nat→Prop)→World→Prop} {lo Wb:Nat} {c1 c2 c3:Addr}
def dt (St:List (List Nat)→(Nat→Prop)→World→Prop) (lo Wb:Nat) (c1 c2 c3:Addr) (v:Vd) (k:K):Prop:=∀ (pre:List (List Nat)) (M:Nat→Prop) (w0 W:World) (p:Nat) (m:Md),St pre M W→qT W Wb (.pointer (some c1)) (.pointer (some c2)) (.pointer (some c3))→¬ M Wb→Su.Tabs W→AtT w0 p v m k→w0.heap.size≤lo→G w0 W→pre.length+(jt v k.flat).2.length≤1000000→
 Calls Tryz.prog 121 #[.pointer (some ⟨Wb,0,none⟩),.pointer (some ⟨p,0,none⟩)] W fun e W'=>e=.returned (.agg ((jt v k.flat).1.map Su.vb).toArray)∧Po St pre (jt v k.flat).2 M W W'
def PoK (St:List (List Nat)→(Nat→Prop)→World→Prop) (pre ts:List (List Nat)) (M:Nat→Prop) (Kr:Nat) (W W':World):Prop:=∃ M',St (pre++ts) M' W'∧(∀ b,M' b→M b∨W.heap.size≤b)∧Fr (fun b=>M b∨b=Kr) W W'
theorem gQ (hC:CB St lo Wb (.pointer (some c1)) (.pointer (some c2)) (.pointer (some c3))) (l:List Kid) (w0:World) (hl:∀ x∈l,AtT w0 x.p x.v x.m x.k∧dt St lo Wb c1 c2 c3 x.v x.k) (hlen:l.length≤1000000)
  (pre:List (List Nat)) (M:Nat→Prop) (W:World) (Kr cap:Nat) (hS:St pre M W) (hW:qT W Wb (.pointer (some c1)) (.pointer (some c2)) (.pointer (some c3))) (hWM:¬ M Wb) (hT:Su.Tabs W) (h0:w0.heap.size≤lo) (hG0:G w0 W) (hK:KRow W Kr cap l []) (hKM:¬ M Kr) (hKW:Kr≠Wb) (hKlo:lo≤Kr) (hP:pre.length+(ql l).length≤1000000):
  Calls Tryz.prog 156 #[.pointer (some ⟨Wb,0,none⟩),.slice (some ⟨Kr,0,none⟩) l.length cap] W fun e W'=>e=.returned (.tuple #[])∧PoK St pre (ql l) M Kr W W'∧KRow W' Kr cap l (qf l):=by
 have HPP:=hid hP
 clear hP
 obtain ⟨n,hn⟩:∃ n,l.length=n:=⟨_,rfl⟩
 rw [hn]
 have HH:=hid (⟨hl,hn,hlen,hWM,h0,hKM,hKW,hKlo⟩:_∧_∧_∧_∧_∧_∧_∧_)
 have HS:Hid (∃ M',St (pre++ql (l.take 0)) M' W∧(∀ b,M' b→M b∨W.heap.size≤b)∧Fr (fun b=>M b∨b=Kr) W W∧qT W Wb (.pointer (some c1)) (.pointer (some c2)) (.pointer (some c3))∧Su.Tabs W∧G w0 W∧KRow W Kr cap l (qf (l.take 0))):=
  ⟨M,by simpa [ql] using hS,fun b h=>.inl h,⟨rfl,rfl,rfl,Nat.le_refl _,fun _ _ _=>rfl⟩,hW,hT,hG0,hK⟩
 have hlt:Kr<W.heap.size∧Wb<W.heap.size:=⟨hK.lt,hW.lt⟩
 have HLT:=hid hlt
 have hn6:n≤1000000:=by omega
 clear hl hn hlen hS hW hWM hT h0 hG0 hK hKM hKW hKlo hlt
 go_enter Tryz.func156,Tryz.ntmps156
 go_wp2_with fail
 go_loopw [7] (fun i wr=>∃ k:Nat,i=.int .i64 k∧k≤n∧Hid (∃ M',St (pre++ql (l.take k)) M' wr∧(∀ b,M' b→M b∨W.heap.size≤b)∧Fr (fun b=>M b∨b=Kr) W wr∧qT wr Wb (.pointer (some c1)) (.pointer (some c2)) (.pointer (some c3))∧Su.Tabs wr∧G w0 wr∧KRow wr Kr cap l (qf (l.take k)))) (fun i _=>n-iOf i)
 case atStart=>exact ⟨0,rfl,by omega,HS.o⟩
 case round=>
  clear HS
  obtain ⟨k,rfl,hk,HR⟩:=hrel
  obtain ⟨M1,hS,hM1,hf,hW,hT,hG0,hK⟩:=HR.o
  clear HR
  by_cases hkn:k<n
  ·have hkI:(k:Int)<n:=by omega
   obtain ⟨hl,hn,hlen,hWM,h0,hKM,hKW,hKlo⟩:=HH.o
   obtain ⟨x,hx⟩:∃ x,l[k]?=some x:=⟨l[k]'(by omega),by simp⟩
   obtain ⟨hxT,hxH⟩:=hl x (List.mem_of_getElem? hx)
   have q1:=jB hW.lies 1 _ rfl
   have q2:=hK.at (bS _) (j:=1) hx (by omega) (u:=.pointer (some ⟨x.p,0,none⟩)) (by simp [kcl])
   have hnW:¬ M1 Wb:=kM hM1 hWM HLT.o.2
   have hnK:¬ M1 Kr:=kM hM1 hKM HLT.o.1
   have CC:=hxH _ M1 w0 wr x.p x.m hS hW hnW hT hxT h0 hG0 (by have:=HPP.o;have:=tN l k x hx;simp only [lA];omega)
   have HX:Hid (((jt x.v x.k.flat).1.map Su.vb).toArray.size=32∧((jt x.v x.k.flat).1.map Su.vb).toArray.all (·.oneCell')=true):=⟨by simp [yN],kV _⟩
   have HQ:=hid (⟨hx,hM1,hf,hW,hT,hG0,hK,hnW,hnK,hS⟩:_∧_∧_∧_∧_∧_∧_∧_∧_∧_)
   clear hS hM1 hf hW hT hG0 hK hx hxT hxH hnW hnK hl hn hlen hWM h0 hKM hKW hKlo
   obtain ⟨X,hX⟩:∃ X,((jt x.v x.k.flat).1.map Su.vb).toArray=X:=⟨_,rfl⟩
   rw [hX] at CC HX
   have HXE:=hid hX
   clear hX
   go_upto_region 5 with (first
    | (go_at_call 121;refine CC.mono ?_;rintro e w2 ⟨rfl,M2,hS2,hM2,hf2⟩;have hK2:KRow w2 Kr cap l (qf (l.take k)):=HQ.o.2.2.2.2.2.2.1.same (hf2.same Kr HQ.o.2.2.2.2.2.2.1.lt HQ.o.2.2.2.2.2.2.2.2.1);have hkl:(qf (l.take k)).length=k:=(by simp [qf];have:=HH.o.2.1;omega);obtain ⟨old,fin,p1,p2,p3,p4⟩:=hK2.put (bS _) (yN x.v x.k.flat) (by have:=HH.o.2.1;omega);rw [hkl] at p2 p3;rw [HXE.o] at p3;have HP:=hid (⟨hS2,hM2,hf2,p1,p2,p3,p4⟩:_∧_∧_∧_∧_∧_∧_);clear CC hS2 hM2 hf2 p1 p2 p3 p4 hK2 hkl)
    | ((with_reducible refine jC (w2.setRow Kr fin) ?_ ?_);exact dO _ _ rfl Kr (k*34+2) X old fin 267 rfl rfl _ HP.o.2.2.2.1 HX.o.1 HX.o.2 HP.o.2.2.2.2.1 HP.o.2.2.2.2.2.1))
   try simp only [Act.put]
   obtain ⟨hl,hn,hlen,hWM,h0,hKM,hKW,hKlo⟩:=HH.o
   obtain ⟨hx,hM1,hf,hW,hT,hG0,hK,hnW,hnK,hS⟩:=HQ.o
   obtain ⟨hS2,hM2,hf2,_,_,_,p4⟩:=HP.o
   have hb:=hC.bnd hS
   have hbe:Below lo wr (w2.setRow Kr fin):=(hf2.below (fun b h=>(hb.2 b h).1) hb.1).trans ⟨rfl,rfl,rfl,by simp,fun b hb=>setRow_other _ Kr b _ (by omega)⟩
   have HR:Hid (∃ M',St (pre++ql (l.take (k+1))) M' (w2.setRow Kr fin)∧(∀ b,M' b→M b∨W.heap.size≤b)∧Fr (fun b=>M b∨b=Kr) W (w2.setRow Kr fin)∧qT (w2.setRow Kr fin) Wb (.pointer (some c1)) (.pointer (some c2)) (.pointer (some c3))∧Su.Tabs (w2.setRow Kr fin)∧G w0 (w2.setRow Kr fin)∧KRow (w2.setRow Kr fin) Kr cap l (qf (l.take (k+1)))):=by
    refine ⟨M2,?_,fun b h=>?_,⟨hf2.os.trans hf.os,hf2.tape.trans hf.tape,hf2.output.trans hf.output,by have:=hf.size;have:=hf2.size;simp;omega,fun b hb hnb=>?_⟩,?_,hT.below hbe hC.four,Below.trans (B:=w0.heap.size) hG0 (hbe.mono h0),?_⟩
    ·rw [cP l k x hx]
     have:pre++ql (l.take k++[x])=(pre++ql (l.take k))++(jt x.v x.k.flat).2:=by simp [ql]
     rw [this]
     exact hC.keep hS2 (KeepM.row _ _ _ (kM hM2 hnK hK.lt))
    ·rcases hM2 b h with h | h
     ·exact hM1 b h
     ·have:=hf.size;exact .inr (by omega)
    ·have h1:¬ M1 b:=kM hM1 (fun e=>hnb (.inl e)) hb
     rw [setRow_other _ Kr b _ (fun e=>hnb (.inr e)),hf2.same b (by have:=hf.size;omega) h1,hf.same b hb hnb]
    ·exact (setRow_other _ Kr Wb _ (Ne.symm hKW)).trans (hW.fr hf2 hnW)
    ·rw [cP l k x hx]
     have:qf (l.take k++[x])=qf (l.take k)++[(jt x.v x.k.flat).1]:=by simp [qf]
     rw [this]
     exact p4
   generalize w2.setRow Kr fin=w3 at *
   clear hl hn hlen hWM h0 hKM hKW hKlo hx hM1 hf hW hT hG0 hK hnW hnK hS hS2 hM2 hf2 p4 hb hbe q1 q2
   go_wp2_with fail
   go_roundw
   case rel=>exact ⟨k+1,by go_num,by omega,HR.o⟩
   case measure=>simp;omega
  ·have hkI:¬ (k:Int)<n:=by omega
   obtain rfl:k=n:=by omega
   have HF:=hid (⟨hS,hM1,hf,hK⟩:_∧_∧_∧_)
   clear hS hM1 hf hW hT hG0 hK
   go_wp2_with fail
   go_end0
   obtain ⟨hS,hM1,hf,hK⟩:=HF.o
   rw [List.take_of_length_le (by have:=HH.o.2.1;omega)] at hS hK
   exact ⟨rfl,⟨M1,hS,hM1,hf⟩,hK⟩
end
end Go.Proofs.YtjikkhbcbfpocaaGreatDoor
