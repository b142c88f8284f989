import Derived.Test.YtjikkhbcbfpocaaGreatDoorDD
import Derived.Test.YtjikkhbcbfpocaaGreatDoorKZ
set_option maxRecDepth 100000
set_option maxHeartbeats 2000000
namespace Go.Proofs.YtjikkhbcbfpocaaGreatDoor
open Go.RowKit Go.Shelf
attribute [local go_sem] Oper.semAt_some
theorem sU (xs r:List Value) (o:Nat) (v:Value) (h:o<xs.length):over (xs.set o v) (o+1) r=over xs o (v::r):=by
 unfold over
 rw [eE _ _ _ h]
 have h1:(xs.take o).length=o:=by simp;omega
 have e1:(xs.take o++v::xs.drop (o+1)).take (o+1)=xs.take o++[v]:=by
  rw [List.take_append,h1,show o+1-o=1 by omega,List.take_of_length_le (by omega)]
  rfl
 have e2:(xs.take o++v::xs.drop (o+1)).drop (o+1+r.length)=xs.drop (o+(r.length+1)):=by
  rw [List.drop_append,h1,List.drop_of_length_le (l:=xs.take o) (by omega),show o+1+r.length-o=r.length+1 by omega,List.drop_succ_cons,List.drop_drop]
  simp only [List.nil_append]
  congr 1
  omega
 rw [e1,e2]
 simp
theorem qr {g:Nat} {T:TypeId} {f:Nat × Nat}:∀ (vs:List Value) (o:Nat) (w:World) (xs:List Value),w.heap[g]?=some (.cells xs.toArray T f)→o+vs.length≤xs.length→(w.setCells g o vs).heap[g]?=some (.cells (over xs o vs).toArray T f)
 | [],o,w,xs,h,_=>by simpa [over,World.setCells] using h
 | v::r,o,w,xs,h,hl=>by
  simp only [lC] at hl
  have h1:=Wi.jM (o:=o) v h
  rw [List.setIfInBounds_toArray] at h1
  have h2:=qr r (o+1) _ _ h1 (by simp;omega)
  rw [sU _ _ _ _ (by omega)] at h2
  exact h2
theorem Fr.setCells {M:Nat→Prop} {w:World} {b o:Nat} {vs:List Value} (h:M b):Fr M w (w.setCells b o vs):=by
 refine ⟨?_,?_,?_,by rw [qZ];exact Nat.le_refl _,fun k _ hn=>jV b _ _ _ _ fun e=>hn (e ▸ h)⟩
 all_goals
  induction vs generalizing o w with
  | nil=>rfl
  | cons v r ih=>exact (ih (o:=o+1) (w:=w.setCell ⟨b,o,none⟩ v)).trans rfl
theorem Fr.setRow {M:Nat→Prop} {w:World} {b:Nat} {cs:Array Value} (h:M b):Fr M w (w.setRow b cs):=⟨rfl,rfl,rfl,by simp,fun k _ hn=>setRow_other _ b k _ fun e=>hn (e ▸ h)⟩
theorem yj {w:World} {g o n:Nat} {cs:Array Value} {T:TypeId} (h:w.heap[g]?=some (.cells cs T (0,0))) (hn:o+n≤cs.size):w.there g o n:=fun j hj=>by
 refine ⟨?_,by simp [World.frozen?,h]⟩
 simp only [World.cell?,h]
 have:o+j<cs.size:=by omega
 simp [this]
theorem yI {o:Oper} {a:Act} (t:TypeId) (x y:Operand) (ho:o.op=.store t x y) (g f:Nat) (c:Array Value) (hx:a.eval x=.pointer (some ⟨g,f,none⟩)) (hy:a.eval y=.agg c) (w:World) (ht:w.there g f c.size)
  (hz:(Tryz.prog.info? t).map (·.size)=some c.size) (h1:c.all (·.oneCell')=true):(execOp a.eval o).run Tryz.prog w=.ok .skip (w.setCells g f c.toList):=by
 unfold execOp
 simp only [ho,hx,hy,Sem.run_bind,Sem.run_pure,Result.andThen_ok,run_storeAt_mid (P:=Tryz.prog) w g f t c ht hz h1]
def z26d:Array Value:=#[.int .i64 0,.int .i64 0]
theorem oQ:(Tryz.prog.info? 26).bind (·.zero)=some (.agg z26d):=by kernel_rfl
theorem ba:(Tryz.prog.info? 26).map (·.size)=some 2:=by kernel_rfl
def mc (n s:Nat):Array Value:=#[.int .i64 (n:Int),.int .i64 (s:Int)]
theorem lZ (n s:Nat):(mc n s).all (·.oneCell')=true:=by simp [mc,Value.oneCell']
theorem dY {c:Rp} {r:Rv} {M:Nat→Prop} {w:World} (hS:Rs c r M w):
  Calls Tryz.prog 139 #[.pointer (some ⟨c.X,0,none⟩)] w fun x w'=>x=.returned (.agg (mc (yb c.l r).1.1 (yb c.l r).1.2))∧Pr c (yb c.l r).2 M w w':=by
 obtain ⟨B,hB⟩:∃ B,w.heap.size=B:=⟨_,rfl⟩
 have hA:=(Pq.start hS).alloc (.cells z26d 26)
 have hv:(w.alloc (.cells z26d 26)).heap[B]?=some (.cells z26d 26 (0,0)):=by rw [← hB];exact World.alloc_heap_new w _
 rw [hB] at hA
 have HV:=hid hv
 have C1:=hA.call (fun b q=>by rcases q with q | q;exact q.elim;rw [World.size_alloc];omega) fun M' hR=>yW 0 kI (by decide) hR
 have C2:Hid (∀ (least:Int) (most:Nat) W,most<9223372036854775808→Pq c (numR c.l 0 kI r).2 M w (fun b=>False∨b=B) W→B<W.heap.size→Calls Tryz.prog 137 #[.pointer (some ⟨c.X,0,none⟩),.int .i64 least,.int .i64 (most:Int)] W fun x w'=>x=.returned (.int .i64 ((numR c.l least most (numR c.l 0 kI r).2).1:Int))∧Pq c (numR c.l least most (numR c.l 0 kI r).2).2 M w (fun b=>False∨b=B) w'∧W.heap.size≤w'.heap.size∧∀ b,(False∨b=B)→w'.heap[b]?=W.heap[b]?):=fun least most W hm hq hl=>hq.call (fun b q=>by rcases q with q | q;exact q.elim;omega) fun M' hR=>yW least most hm hR
 clear hS hA hv
 unfold yb
 generalize numR c.l 0 kI r=N at *
 obtain ⟨n,r1⟩:=N
 have e0:((kI:Nat):Int)=72057594037927935:=rfl
 rw [e0] at C1
 simp only at C1 C2 ⊢
 by_cases hn:n=0
 ·subst hn
  rw [if_pos rfl]
  have C3:=fun W h1 h2=>C2.o 0 0 W (by decide) h1 h2
  clear C2
  generalize numR c.l 0 0 r1=N2 at *
  obtain ⟨n2,r2⟩:=N2
  simp only at C3 ⊢
  have HC:=hid C3
  clear C3
  go_enter Tryz.func139,Tryz.ntmps139
  go_wp2_with (first
   | ((with_reducible refine jF (.pointer (some ⟨B,0,none⟩)) (w.alloc (.cells z26d 26)) ?_ ?_);exact jG 26 z26d rfl oQ _ _ hB)
   | (go_at_call_of 137 (Value.int .i64 72057594037927935);refine C1.mono ?_;rintro e w2 ⟨rfl,h2,h3,h4⟩;have HP:=hid (⟨h2,(h4 B (.inr rfl)).trans HV.o⟩:_∧_);clear h2 h3 h4)
   | (go_at_call 137;refine (HC.o _ HP.o.1 (gS HP.o.2)).mono ?_;rintro e w3 ⟨rfl,h2,h3,h4⟩;have HQ:=hid (⟨h2,(h4 B (.inr rfl)).trans HP.o.2⟩:_∧_);clear h2 h3 h4)
   | ((with_reducible refine jC (w3.setRow B (mc 0 n2)) ?_ ?_);exact jL 26 _ _ rfl B (mc 0 n2) z26d rfl rfl _ HQ.o.2 ba rfl (lZ _ _)))
  refine bodyPost_ret (results_cell_row (P:=Tryz.prog) (p:=2) (ty:=26) rfl _ _ B 26 (mc 0 n2) (0,0) _ rfl (setRow_heap _ _ _ _ _ _ HQ.o.2) Tryz.underlying26 rfl ba) rfl ⟨rfl,(HQ.o.1.put (Fr.setRow (.inr rfl))).done⟩
 ·rw [if_neg hn]
  have hnb:((n:Int)==0)=false:=by simp;omega
  have C3:=fun W h1 h2=>C2.o 1 kI W (by decide) h1 h2
  rw [e0] at C3
  clear C2
  generalize numR c.l 1 kI r1=N2 at *
  obtain ⟨n2,r2⟩:=N2
  simp only at C3 ⊢
  have HC:=hid C3
  clear C3 hn
  go_enter Tryz.func139,Tryz.ntmps139
  go_wp2_with (first
   | ((with_reducible refine jF (.pointer (some ⟨B,0,none⟩)) (w.alloc (.cells z26d 26)) ?_ ?_);exact jG 26 z26d rfl oQ _ _ hB)
   | (go_at_call_of 137 (Value.int .i64 1);refine (HC.o _ HP.o.1 (gS HP.o.2)).mono ?_;rintro e w3 ⟨rfl,h2,h3,h4⟩;have HQ:=hid (⟨h2,(h4 B (.inr rfl)).trans HP.o.2⟩:_∧_);clear h2 h3 h4)
   | (go_at_call 137;refine C1.mono ?_;rintro e w2 ⟨rfl,h2,h3,h4⟩;have HP:=hid (⟨h2,(h4 B (.inr rfl)).trans HV.o⟩:_∧_);clear h2 h3 h4)
   | ((with_reducible refine jC (w3.setRow B (mc n n2)) ?_ ?_);exact jL 26 _ _ rfl B (mc n n2) z26d rfl rfl _ HQ.o.2 ba rfl (lZ _ _)))
  refine bodyPost_ret (results_cell_row (P:=Tryz.prog) (p:=2) (ty:=26) rfl _ _ B 26 (mc n n2) (0,0) _ rfl (setRow_heap _ _ _ _ _ _ HQ.o.2) Tryz.underlying26 rfl ba) rfl ⟨rfl,(HQ.o.1.put (Fr.setRow (.inr rfl))).done⟩
theorem wZ (a b c d:Nat):over (over z27.toList 0 (mc a b).toList) 2 (mc c d).toList=mx ⟨a,b,c,d⟩:=rfl
theorem iH {c:Rp} {r:Rv} {M:Nat→Prop} {w:World} (hS:Rs c r M w):
  Calls Tryz.prog 105 #[.pointer (some ⟨c.X,0,none⟩)] w fun x w'=>x=.returned (.agg (mx (yV c.l c.ver r).1).toArray)∧Pr c (yV c.l c.ver r).2 M w w':=by
 obtain ⟨B,hB⟩:∃ B,w.heap.size=B:=⟨_,rfl⟩
 have hA:=((Pq.start hS).alloc (.cells z27 27)).alloc (.cells z27 27)
 have hs1:(w.alloc (.cells z27 27)).heap.size=B+1:=by rw [World.size_alloc,hB]
 have hs2:((w.alloc (.cells z27 27)).alloc (.cells z27 27)).heap.size=B+1+1:=by rw [World.size_alloc,hs1]
 have hv0:((w.alloc (.cells z27 27)).alloc (.cells z27 27)).heap[B]?=some (.cells z27 27 (0,0)):=by
  rw [Below.heap_alloc _ _ _ (by omega),← hB];exact World.alloc_heap_new w _
 have hv1:((w.alloc (.cells z27 27)).alloc (.cells z27 27)).heap[B+1]?=some (.cells z27 27 (0,0)):=by rw [← hs1];exact World.alloc_heap_new _ _
 rw [hs1,hB] at hA
 have q1:=hA.q1
 have HX:Hid (z27.size=4∧z27.all (·.oneCell')=true):=⟨rfl,by simp [z27,Value.oneCell']⟩
 have y26:=ba
 unfold yV
 by_cases hver:c.ver<3
 ·rw [if_pos hver]
  have HH:=hid (⟨hA,hv0,hv1⟩:_∧_∧_)
  clear hA hv0 hv1 hS
  go_enter Tryz.func105,Tryz.ntmps105
  go_wp2_with (first
   | ((with_reducible refine jF (.pointer (some ⟨B,0,none⟩)) (w.alloc (.cells z27 27)) ?_ ?_);exact jG 27 z27 rfl gJ _ _ hB)
   | ((with_reducible refine jF (.pointer (some ⟨B+1,0,none⟩)) ((w.alloc (.cells z27 27)).alloc (.cells z27 27)) ?_ ?_);exact jG 27 z27 rfl gJ _ _ hs1)
   | ((with_reducible refine jA (.agg z27) ?_ ?_);exact jv 27 _ rfl (B+1) 0 rfl z27 _ (jD HH.o.2.2) Tryz.underlying27 rfl dM)
   | ((with_reducible refine jC (((w.alloc (.cells z27 27)).alloc (.cells z27 27)).setRow B z27) ?_ ?_);exact jL 27 _ _ rfl B z27 z27 rfl rfl _ HH.o.2.1 dM rfl HX.o.2))
  refine bodyPost_ret (results_cell_row (P:=Tryz.prog) (p:=2) (ty:=27) rfl _ _ B 27 z27 (0,0) _ rfl (setRow_heap _ _ _ _ _ _ HH.o.2.1) Tryz.underlying27 rfl dM) rfl ⟨rfl,(HH.o.1.put (Fr.setRow (.inl (.inr rfl)))).done⟩
 ·rw [if_neg hver]
  have hsb:∀ b,((False∨b=B)∨b=B+1)→b<((w.alloc (.cells z27 27)).alloc (.cells z27 27)).heap.size:=fun b q=>by rcases q with (q | q) | q;exact q.elim;all_goals omega
  have C1:=hA.call hsb fun M' hR=>dY hR
  have HV:=hid (⟨hv0,hv1⟩:_∧_)
  clear hA hv0 hv1 hS hsb
  generalize yb c.l r=N1 at *
  obtain ⟨⟨n1,s1⟩,r1⟩:=N1
  simp only at C1 ⊢
  have C2:Hid (∀ W,Pq c r1 M w (fun b=>(False∨b=B)∨b=B+1) W→B+1<W.heap.size→Calls Tryz.prog 139 #[.pointer (some ⟨c.X,0,none⟩)] W fun x w'=>x=.returned (.agg (mc (yb c.l r1).1.1 (yb c.l r1).1.2))∧Pq c (yb c.l r1).2 M w (fun b=>(False∨b=B)∨b=B+1) w'∧W.heap.size≤w'.heap.size∧∀ b,((False∨b=B)∨b=B+1)→w'.heap[b]?=W.heap[b]?):=fun W hq hl=>hq.call (fun b q=>by rcases q with (q | q) | q;exact q.elim;all_goals omega) fun M' hR=>dY hR
  generalize yb c.l r1=N2 at *
  obtain ⟨⟨n2,s2⟩,r2⟩:=N2
  simp only at C2 ⊢
  go_enter Tryz.func105,Tryz.ntmps105
  go_wp2_with (first
   | ((with_reducible refine jF (.pointer (some ⟨B,0,none⟩)) (w.alloc (.cells z27 27)) ?_ ?_);exact jG 27 z27 rfl gJ _ _ hB)
   | ((with_reducible refine jF (.pointer (some ⟨B+1,0,none⟩)) ((w.alloc (.cells z27 27)).alloc (.cells z27 27)) ?_ ?_);exact jG 27 z27 rfl gJ _ _ hs1))
  refine wp_loop_rounds 3 ?_
  rw [rounds_succ]
  go_wp2_with (first
   | (go_at_call 139;refine C1.mono ?_;rintro e w3 ⟨rfl,h2,h3,h4⟩;have HP:=hid (⟨h2,(h4 B (.inl (.inr rfl))).trans HV.o.1,(h4 (B+1) (.inr rfl)).trans HV.o.2⟩:_∧_∧_);clear h2 h3 h4)
   | ((with_reducible refine jC (w3.setCells (B+1) 0 (mc n1 s1).toList) ?_ ?_);exact yI 26 _ _ rfl (B+1) 0 (mc n1 s1) rfl rfl _ (yj HP.o.2.2 (by rw [HX.o.1];show 0+2≤4;omega)) ba (lZ _ _)))
  have h5:=HP.o.1.put (Fr.setCells (o:=0) (vs:=(mc n1 s1).toList) (b:=B+1) (.inr rfl))
  have h6:(w3.setCells (B+1) 0 (mc n1 s1).toList).heap[B]?=some (.cells z27 27 (0,0)):=(jV _ _ _ _ _ (by omega)).trans HP.o.2.1
  have h7:=qr (mc n1 s1).toList 0 w3 z27.toList HP.o.2.2 (by show 0+2≤4;omega)
  have HQ:=hid (⟨h5,h6,h7⟩:_∧_∧_)
  clear h5 h6 h7 HP C1
  generalize w3.setCells (B+1) 0 (mc n1 s1).toList=w4 at *
  have C3:=C2.o w4 HQ.o.1 (gS HQ.o.2.2)
  rw [rounds_succ]
  go_wp2_with (first
   | (go_at_call 139;refine C3.mono ?_;rintro e w5 ⟨rfl,h2,h3,h4⟩;have HP:=hid (⟨h2,(h4 B (.inl (.inr rfl))).trans HQ.o.2.1,(h4 (B+1) (.inr rfl)).trans HQ.o.2.2⟩:_∧_∧_);clear h2 h3 h4)
   | ((with_reducible refine jC (w5.setCells (B+1) 2 (mc n2 s2).toList) ?_ ?_);exact yI 26 _ _ rfl (B+1) 2 (mc n2 s2) rfl rfl _ (yj HP.o.2.2 (by show 2+2≤4;omega)) ba (lZ _ _)))
  have h5:=HP.o.1.put (Fr.setCells (o:=2) (vs:=(mc n2 s2).toList) (b:=B+1) (.inr rfl))
  have h6:(w5.setCells (B+1) 2 (mc n2 s2).toList).heap[B]?=some (.cells z27 27 (0,0)):=(jV _ _ _ _ _ (by omega)).trans HP.o.2.1
  have h7:=qr (mc n2 s2).toList 2 w5 _ HP.o.2.2 (by show 2+2≤4;omega)
  rw [wZ] at h7
  have HR:=hid (⟨h5,h6,h7⟩:_∧_∧_)
  have HZ:Hid ((mx ⟨n1,s1,n2,s2⟩).toArray.size=4∧(mx ⟨n1,s1,n2,s2⟩).toArray.all (·.oneCell')=true):=⟨rfl,by simp [mx,Value.oneCell']⟩
  clear h5 h6 h7 HP C2 C3 HQ
  generalize w5.setCells (B+1) 2 (mc n2 s2).toList=w6 at *
  obtain ⟨X,hX⟩:∃ X,(mx ⟨n1,s1,n2,s2⟩).toArray=X:=⟨_,rfl⟩
  rw [hX] at HR HZ
  have HXX:=hid hX
  clear hX
  rw [rounds_succ]
  go_wp2_with (first
   | ((with_reducible refine jA (.agg X) ?_ ?_);exact jv 27 _ rfl (B+1) 0 rfl X _ (jD HR.o.2.2) Tryz.underlying27 rfl (by rw [dM,HZ.o.1]))
   | ((with_reducible refine jC (w6.setRow B X) ?_ ?_);exact jL 27 _ _ rfl B X z27 rfl rfl _ HR.o.2.1 (by rw [dM,HZ.o.1]) (by rw [HZ.o.1];rfl) HZ.o.2))
  refine bodyPost_ret (results_cell_row (P:=Tryz.prog) (p:=2) (ty:=27) rfl _ _ B 27 X (0,0) _ rfl (setRow_heap _ _ _ _ _ _ HR.o.2.1) Tryz.underlying27 rfl (by rw [dM,HZ.o.1])) rfl ⟨by rw [HXX.o],(HR.o.1.put (Fr.setRow (.inl (.inr rfl)))).done⟩
theorem raw32 {l:List Int} (hB:Wire.Bytes l) (s:Wi.St):(Wi.rawB l s 32=[]∧b32 (Wi.rawB l s 32)=jw)∨((Wi.rawB l s 32).length=32∧up (b32 (Wi.rawB l s 32))=Wi.rawB l s 32):=by
 have hc:Wi.rawB l s 32=[]∨((Wi.rawB l s 32).length=32∧∀ x∈Wi.rawB l s 32,0≤x):=by
  unfold Wi.rawB
  split
  ·exact .inl rfl
  ·split
   ·exact .inl rfl
   ·refine .inr ⟨?_,fun x hx=>(hB x (List.mem_of_mem_drop (List.mem_of_mem_take hx))).1⟩
    rw [List.length_take,List.length_drop]
    have:(32:Int).toNat=32:=rfl
    omega
 rcases hc with h | ⟨h1,h2⟩
 ·exact .inl ⟨h,by rw [h];rfl⟩
 ·refine .inr ⟨h1,?_⟩
  unfold b32 up
  rw [if_pos h1,List.map_map]
  revert h2
  generalize Wi.rawB l s 32=t
  intro h2
  clear h1
  induction t with
  | nil=>rfl
  | cons a t ih=>
   rw [List.map_cons,ih fun x hx=>h2 x (by simp [hx])]
   simp only [Function.comp]
   rw [show Int.ofNat a.toNat=a from Int.toNat_of_nonneg (h2 a (by simp))]
theorem eJ {ops:Array Oper} {o:Oper} {a:Act} {w:World} {K:Act→World→Prop} {Q:Exit→Act→World→Prop} {E:Prop} (hgd:o.guard=none) (d s:Operand)
  (ho:o.op=.call { callee:=.builtin .copy,args:=#[d,s],argTypes:=#[35,35] }) (vd vs:Value) (hd:a.eval d=vd) (hs:a.eval s=vs) (m:Nat) (w':World)
  (hrun:(Builtin.copy_ #[35,35] o.type #[vd,vs]).run Tryz.prog w=.ok (.int .i64 m) w') (h:K (a.put o.dst (.int .i64 (m:Int))) w'):
  if Region.wanted o (yielded ops a.tmps)=true then Oper.wp Tryz.prog o a w K Q else E:=by
 have hw:Region.wanted o (yielded ops a.tmps)=true:=by simp [Region.wanted,hgd]
 rw [if_pos hw]
 unfold Oper.wp
 simp [execOp,ho,resolve,invoke,builtin,hd,hs,hrun,Result.andThen]
 exact h
theorem fV {c:Rp} {r:Rv} {M:Nat→Prop} {w:World} (hS:Rs c r M w):
  Calls Tryz.prog 138 #[.pointer (some ⟨c.X,0,none⟩)] w fun x w'=>x=.returned (.agg ((sumR c.l r).1.map Su.vb).toArray)∧Pr c (sumR c.l r).2 M w w':=by
 obtain ⟨B,hB⟩:∃ B,w.heap.size=B:=⟨_,rfl⟩
 have hA:=((Pq.start hS).alloc (.cells z22 22)).alloc (.cells z22 22)
 have hG1:G w (w.alloc (.cells z22 22)):=G.alloc _ _
 have hs1:(w.alloc (.cells z22 22)).heap.size=B+1:=by rw [World.size_alloc,hB]
 have hs2:((w.alloc (.cells z22 22)).alloc (.cells z22 22)).heap.size=B+1+1:=by rw [World.size_alloc,hs1]
 have hv0:((w.alloc (.cells z22 22)).alloc (.cells z22 22)).heap[B]?=some (.cells z22 22 (0,0)):=by
  rw [Below.heap_alloc _ _ _ (by omega),← hB];exact World.alloc_heap_new w _
 have hv1:((w.alloc (.cells z22 22)).alloc (.cells z22 22)).heap[B+1]?=some (.cells z22 22 (0,0)):=by rw [← hs1];exact World.alloc_heap_new _ _
 rw [hs1,hB] at hA
 have hA:=hA.grow ((Below.refl _ _).drew:G _ (((w.alloc (.cells z22 22)).alloc (.cells z22 22)).drew))
 have C0:=(hS.grow hG1).at_
 have q00:=(hS.grow hG1).q0
 have q0:=hA.q0
 have hsb:∀ b,((False∨b=B)∨b=B+1)→b<((w.alloc (.cells z22 22)).alloc (.cells z22 22)).drew.heap.size:=fun b q=>by
  show b<((w.alloc (.cells z22 22)).alloc (.cells z22 22)).heap.size
  rcases q with (q | q) | q
  ·exact q.elim
  all_goals omega
 have CR:=hA.call (f:=61) (args:=#[.pointer (some ⟨c.R,0,none⟩),.int .i64 32]) (r':={ r with s:=Wi.rawS c.l r.s 32 }) (Q:=fun e w'=>∃ v,e=.returned v∧Wi.Owns w' (B+1+1) v (Wi.rawB c.l r.s 32)) hsb fun M' hR=>(hR.raw 32 (by decide)).mono fun _ _ ⟨v,e1,e2,e3⟩=>⟨⟨v,e1,by rw [show ((w.alloc (.cells z22 22)).alloc (.cells z22 22)).drew.heap.size=B+1+1 from hs2] at e3;exact e3⟩,e2⟩
 have hr32:=raw32 c.hB r.s
 have hbl:=xI (Wi.rawB c.l r.s 32)
 unfold sumR
 simp only
 generalize Wi.rawB c.l r.s 32=t at *
 generalize { r with s:=Wi.rawS c.l r.s 32 }=r1 at *
 obtain ⟨P,hP⟩:∃ P:Nat,r.s.p=P:=⟨_,rfl⟩
 rw [hP] at C0 ⊢
 have HV:Hid (((w.alloc (.cells z22 22)).alloc (.cells z22 22)).drew.heap[B]?=some (.cells z22 22 (0,0))∧((w.alloc (.cells z22 22)).alloc (.cells z22 22)).drew.heap[B+1]?=some (.cells z22 22 (0,0))):=⟨hv0,hv1⟩
 obtain ⟨X,hX⟩:∃ X,((b32 t).map Su.vb).toArray=X:=⟨_,rfl⟩
 have HX:Hid (X.size=32∧X.all (·.oneCell')=true∧((b32 t).map Su.vb).toArray=X):=⟨by rw [← hX];simpa using hbl,by rw [← hX];exact kV _,hX⟩
 rw [hX]
 have HCR:=hid CR
 have HT:Hid ((t=[]∧X=z22)∨(t.length=32∧t.map (Value.int .u8)=X.toList)):=by
  rcases hr32 with ⟨h1,h2⟩ | ⟨h1,h2⟩
  ·exact .inl ⟨h1,by rw [← hX,h2];rfl⟩
  ·refine .inr ⟨h1,?_⟩
   rw [← hX]
   conv=>lhs;rw [← h2]
   simp [up,Su.vb]
 clear hA hv0 hv1 hS hG1 hP hsb CR hr32 hbl hX
 go_enter Tryz.func138,Tryz.ntmps138
 go_upto_region 3 with (first
  | ((with_reducible refine jF (.pointer (some ⟨B,0,none⟩)) (w.alloc (.cells z22 22)) ?_ ?_);exact jG 22 z22 rfl qm _ _ hB)
  | (go_at_call 62;refine C0.mono ?_;rintro e w1 ⟨rfl,hw1⟩;subst hw1)
  | ((with_reducible refine jF (.pointer (some ⟨B+1,0,none⟩)) ((w.alloc (.cells z22 22)).alloc (.cells z22 22)) ?_ ?_);exact jG 22 z22 rfl qm _ _ hs1))
 refine wp_region_any (by kernel_rfl) ?_
 change wpAny _ _ _ _ _ _ _ (World.drew _)
 generalize ((w.alloc (.cells z22 22)).alloc (.cells z22 22)).drew=W2 at *
 refine tA 0 (.slice (some ⟨B+1,0,none⟩) 32 32) ?_ ?_
 ·intro wz
  have y:=zA (B+1) 0 wz
  go_simp
 try simp only [Act.put,sD,sE,sA,sB,sC]
 refine tA 1 (.pointer (some ⟨c.X,0,none⟩)) ?_ ?_
 ·intro wz;go_simp
 try simp only [Act.put,sD,sE,sF,sA,sB,sC]
 refine tA 2 (.pointer (some ⟨c.X,0,none⟩)) ?_ ?_
 ·intro wz;go_simp
 try simp only [Act.put,sD,sE,sF,sA,sB,sC]
 refine tA 3 (.pointer (some ⟨c.X,0,none⟩)) ?_ ?_
 ·intro wz;go_simp
 try simp only [Act.put,sD,sE,sF,sA,sB,sC]
 refine rA [4] ?_
 refine oR (fun K' hK'=>?_)
 go_simp
 refine hK' _ _ ?_
 clear hK' K'
 try simp only [Act.put,sD,sE,sF,sA,sB,sC]
 refine rA [5] ?_
 refine oR (fun K' hK'=>?_)
 go_simp
 refine HCR.o.mono ?_
 rintro e w3 ⟨⟨v,rfl,ho⟩,hp,_,h4⟩
 have HP:=hid (⟨hp,h4,ho⟩:_∧_∧_)
 obtain ⟨ao,vc,hv,_⟩:=ho.has.form
 subst hv
 refine hK' _ _ ?_
 clear hK' K' hp h4 ho HCR
 try simp only [Act.put,sD,sE,sF,sA,sB,sC]
 refine rA [6] ?_
 refine oR (fun K' hK'=>?_)
 obtain ⟨m,w4,hrun,hf4,g1,g0⟩:∃ (m:Nat) (w4:World),(Builtin.copy_ #[35,35] 3 #[.slice (some ⟨B+1,0,none⟩) 32 32,.slice ao t.length vc]).run Tryz.prog w3=.ok (.int .i64 m) w4∧Fr (fun b=>(False∨b=B)∨b=B+1) w3 w4∧w4.heap[B+1]?=some (.cells X 22 (0,0))∧w4.heap[B]?=some (.cells z22 22 (0,0)):=by
  have e1:=(HP.o.2.1 (B+1) (.inr rfl)).trans HV.o.2
  have e0:=(HP.o.2.1 B (.inl (.inr rfl))).trans HV.o.1
  rcases HT.o with ⟨h1,h2⟩ | ⟨h1,h2⟩
  ·subst h1 h2
   exact ⟨0,w3,run_copy_none w3 35 35 3 5 _ _ _ _ _ _ Tryz.underlying35 (by kernel_rfl) rfl,Fr.of_G (G.refl _),e1,e0⟩
  ·obtain ⟨ad,cp,hv,_,hc⟩:∃ a cap,Value.slice ao t.length vc=.slice (some a) t.length cap∧t.length≤cap∧∀ i,i<t.length→w3.cell? (a.add i)=some (.int .u8 (t.getD i 0)):=by
    rcases HP.o.2.2.has with ⟨_,q⟩ | q
    ·rw [q] at h1;simp at h1
    ·exact q
   injection hv with hv1 hv2 hv3
   subst hv1 hv3
   have hl:(X.toList).length=32:=by rw [← h2];simpa using h1
   have hrun:=run_copy_row (P:=Tryz.prog) w3 35 35 3 5 (B+1) 0 32 32 ad t.length vc z22 22 X.toList Tryz.underlying35 (by kernel_rfl) e1 (by rw [hl,h1];rfl) (fun j v hj=>by
    rw [← h2,List.getElem?_map] at hj
    have hjl:j<t.length:=by
     rcases Nat.lt_or_ge j t.length with q | q
     ·exact q
     ·rw [List.getElem?_eq_none q] at hj;cases hj
    rw [hc j hjl,← hj,List.getD_eq_getElem?_getD,gl hjl]
    rfl) (by rw [hl];exact Nat.le_refl _) (fun v hv=>by
    rw [← h2] at hv
    obtain ⟨x,_,rfl⟩:=List.mem_map.1 hv
    rfl)
   refine ⟨_,_,hrun,Fr.setRow (.inr rfl),?_,(setRow_other _ _ _ _ (by omega)).trans e0⟩
   rw [setRow_heap _ _ _ _ _ _ e1]
   congr 2
   rw [hl]
   have e:z22.toList.drop (0+32)=[]:=List.drop_of_length_le (by show 32≤0+32;omega)
   rw [e]
   simp
 have HY:=hid (⟨HP.o.1.put hf4,g1,g0⟩:_∧_∧_)
 clear hf4 g1 g0
 refine eJ rfl (.tmp 10) (.tmp 15) rfl _ _ (by simp [Act.eval]) (by simp [Act.eval]) m w4 hrun ?_
 refine hK' _ _ ?_
 clear hK' K' hrun HP HT HV
 try simp only [Act.put,sD,sE,sF,sA,sB,sC]
 refine dA ?_
 have CM:=HY.o.1.call (f:=66) (args:=#[.pointer (some ⟨c.X,0,none⟩),.int .i64 (P:Int),.bool true]) (fun b q=>by
  have h1:=(gS HY.o.2.1)
  rcases q with (q | q) | q
  ·exact q.elim
  all_goals omega) fun M' hR=>zl P true hR
 clear hA hs1 hs2 q00 C0 q0
 go_wp2_with (first
  | (go_at_call 66;refine CM.mono ?_;rintro e w5 ⟨rfl,hp,_,h4⟩;have HZ:=hid (⟨hp,(h4 (B+1) (.inr rfl)).trans HY.o.2.1,(h4 B (.inl (.inr rfl))).trans HY.o.2.2⟩:_∧_∧_);clear hp h4 CM)
  | ((with_reducible refine jA (.agg X) ?_ ?_);exact jv 22 _ rfl (B+1) 0 rfl X _ (jD HZ.o.2.1) Tryz.underlying22 rfl (by rw [jx,HX.o.1]))
  | ((with_reducible refine jC (w5.setRow B X) ?_ ?_);exact jL 22 _ _ rfl B X z22 rfl rfl _ HZ.o.2.2 (by rw [jx,HX.o.1]) (by rw [HX.o.1];rfl) HX.o.2.1))
 refine bodyPost_ret (results_cell_row (P:=Tryz.prog) (p:=2) (ty:=22) rfl _ _ B 22 X (0,0) _ rfl (setRow_heap _ _ _ _ _ _ HZ.o.2.2) Tryz.underlying22 rfl (by rw [jx,HX.o.1])) rfl ⟨rfl,(HZ.o.1.put (Fr.setRow (.inl (.inr rfl)))).done⟩
theorem vA (nm:ByteArray) (v:Vd) (m:Md) (kv:Value) (x:Int):(nc nm v m kv).setIfInBounds 3 (.int .i64 x)=nc nm { v with size:=x } m kv:=by
 simp only [nc,vx,List.setIfInBounds_toArray,List.cons_append,List.set_cons_succ,List.set_cons_zero]
theorem vB (nm:ByteArray) (v:Vd) (m:Md) (kv:Value) (l:List Nat) (h:l.length=32):(over (nc nm v m kv).toList 4 (l.map Su.vb)).toArray=nc nm ⟨v.kind,v.mode,v.size,l,h⟩ m kv:=by
 simp only [nc,over,vx,List.cons_append,List.length_map,h,List.take_succ_cons,List.take_zero,List.drop_succ_cons]
 rw [List.drop_append,List.drop_of_length_le (by simp [v.len])]
 simp [v.len]
 intro a _
 rfl
theorem eK {c:Rp} {r:Rv} {M S:Nat→Prop} {w0 w:World} {B:Nat} (least:Int) (most:Nat) (nm:ByteArray) (v:Vd) (m:Md) (kv:Value) (hA:Pq c r M w0 S w) (hm:most<9223372036854775808) (hSb:∀ b,S b→b<w.heap.size) (hB:S B) (hv:w.heap[B]?=some (.cells (nc nm v m kv) 30 (0,0))):
  Calls Tryz.prog 104 #[.pointer (some ⟨c.X,0,none⟩),.pointer (some ⟨B,1,none⟩),.int .i64 least,.int .i64 (most:Int)] w fun x w'=>x=.returned (.tuple #[])∧Pq c (conR c.l least most r).2 M w0 S w'∧w.heap.size≤w'.heap.size∧(∀ b,S b→b≠B→w'.heap[b]?=w.heap[b]?)∧w'.heap[B]?=some (.cells (nc nm ⟨v.kind,v.mode,(conR c.l least most r).1.1,(conR c.l least most r).1.2,xI _⟩ m kv) 30 (0,0)):=by
 have C1:=hA.call hSb fun M' hR=>yW least most hm hR
 unfold conR
 simp only
 generalize numR c.l least most r=N at *
 obtain ⟨n,r1⟩:=N
 simp only at C1 ⊢
 have HH:=hid (⟨hSb,hB,hv⟩:_∧_∧_)
 clear hA hSb hv
 have C2:Hid (∀ W,Pq c r1 M w0 S W→(∀ b,S b→b<W.heap.size)→Calls Tryz.prog 138 #[.pointer (some ⟨c.X,0,none⟩)] W fun x w'=>x=.returned (.agg ((sumR c.l r1).1.map Su.vb).toArray)∧Pq c (sumR c.l r1).2 M w0 S w'∧W.heap.size≤w'.heap.size∧∀ b,S b→w'.heap[b]?=W.heap[b]?):=fun W h1 h2=>h1.call h2 fun M' hR=>fV hR
 have hl:(sumR c.l r1).1.length=32:=xI _
 go_enter Tryz.func104,Tryz.ntmps104
 go_upto_region 1 with (first
  | (go_at_call 137;refine C1.mono ?_;rintro e w1 ⟨rfl,h2,h3,h4⟩;have h5:=(h4 B HH.o.2.1).trans HH.o.2.2;have u0:w1.cell? ⟨B,3,none⟩=some (.int .i64 v.size):=by { simp only [World.cell?,h5];rfl };have u1:w1.frozen? ⟨B,3,none⟩=false:=by { simp [World.frozen?,h5] };have HP:=hid (⟨h2,h3,h4,h5⟩:_∧_∧_∧_);clear h2 h3 h4 h5 C1))
 have h6:=HP.o.1.put (Fr.setCell (w:=w1) (o:=3) (x:=.int .i64 (n:Int)) hB)
 have h7:=Wi.jM (o:=3) (.int .i64 (n:Int)) HP.o.2.2.2
 rw [vA] at h7
 have h8:∀ b,b≠B→(w1.setCell ⟨B,3,none⟩ (.int .i64 (n:Int))).heap[b]?=w1.heap[b]?:=fun b hb=>Below.heap_setCell _ _ _ _ hb
 have h9:(w1.setCell ⟨B,3,none⟩ (.int .i64 (n:Int))).heap.size=w1.heap.size:=World.size_setCell _ _ _
 have HQ:=hid (⟨h6,h7,h8,h9⟩:_∧_∧_∧_)
 clear h6 h7 h8 h9 u0 u1
 generalize w1.setCell ⟨B,3,none⟩ (.int .i64 (n:Int))=w2 at *
 have C3:=C2.o w2 HQ.o.1 (fun b hb=>by have h1:=HH.o.1 b hb;have h2:=HP.o.2.1;have h3:=HQ.o.2.2.2;omega)
 obtain ⟨X,hX⟩:∃ X,((sumR c.l r1).1.map Su.vb).toArray=X:=⟨_,rfl⟩
 rw [hX] at C3
 have HX:Hid (X.size=32∧X.all (·.oneCell')=true∧X.toList=(sumR c.l r1).1.map Su.vb):=⟨by rw [← hX];simpa using hl,by rw [← hX];exact kV _,by rw [← hX]⟩
 clear C2 hX
 go_wp2_with (first
  | (go_at_call 138;refine C3.mono ?_;rintro e w3 ⟨rfl,h2,h3,h4⟩;have h5:=(h4 B HH.o.2.1).trans HQ.o.2.1;have HR:=hid (⟨h2,h3,h4,h5⟩:_∧_∧_∧_);clear h2 h3 h4 h5 C3)
  | ((with_reducible refine jC (w3.setCells B 4 X.toList) ?_ ?_);exact yI 22 _ _ rfl B 4 X rfl rfl _ (yj HR.o.2.2.2 (by rw [HX.o.1,jO];omega)) (by rw [jx,HX.o.1]) HX.o.2.1))
 go_end0
 refine ⟨rfl,HR.o.1.put (Fr.setCells hB),?_,fun b h1 h2=>?_,?_⟩
 ·rw [qZ]
  have h2:=HP.o.2.1;have h3:=HQ.o.2.2.2;have h4:=HR.o.2.1
  omega
 ·rw [jV _ _ _ _ _ h2,HR.o.2.2.1 b h1,HQ.o.2.2.1 b h2,HP.o.2.2.1 b h1]
 ·have:=qr X.toList 4 w3 (nc nm { v with size:=(n:Int) } m kv).toList HR.o.2.2.2 (by have:=HX.o.1;simp [jO,this])
  rw [this,HX.o.2.2,vB _ _ _ _ _ hl]
end Go.Proofs.YtjikkhbcbfpocaaGreatDoor
namespace Go.Proofs.YtjikkhbcbfpocaaGreatDoor
open Go.RowKit Go.Shelf
def Subn (M:Nat→Prop) (w:World) (M':Nat→Prop):Prop:=∀ b,M' b→M b∨w.heap.size≤b∨∃ cs,w.heap[b]?=some (.cells cs 167 (0,0))
theorem Subn.of {M M':Nat→Prop} {w:World} (h:∀ b,M' b→M b∨w.heap.size≤b):Subn M w M':=fun b hb=>(h b hb).imp id .inl
theorem Subn.not {M M':Nat→Prop} {w:World} (h:Subn M w M') {b:Nat} {cs:Array Value} {T:TypeId} (hb:w.heap[b]?=some (.cells cs T (0,0))) (hT:T≠167) (hm:¬ M b):¬ M' b:=fun q=>by
 rcases h b q with q | q | ⟨cs',q⟩
 ·exact hm q
 ·have:=(gS hb)
  omega
 ·rw [hb] at q
  cases q
  exact hT rfl
theorem Frs.transn {M M1:Nat→Prop} {A B C:World} (h:Frs M A B) (hM:Subn M A M1) (k:Frs M1 B C):Frs M A C:=by
 refine ⟨⟨k.fr.os.trans h.fr.os,k.fr.tape.trans h.fr.tape,k.fr.output.trans h.fr.output,Nat.le_trans h.size k.size,fun b hb hn=>?_⟩,fun b cs hm hb=>?_⟩
 ·by_cases hm:M1 b
  ·rcases hM b hm with q | q | ⟨cs,q⟩
   ·exact absurd q hn
   ·omega
   ·have e:=h.fr.same b hb hn
    exact (k.spot b cs (e.trans q)).trans e
  ·exact (k.fr.same b (Nat.lt_of_lt_of_le hb h.size) hm).trans (h.fr.same b hb hn)
 ·have e:=h.spot b cs hb
  exact (k.spot b cs (e.trans hb)).trans e
theorem Subn.trans {M M1 M2:Nat→Prop} {A B:World} (h:Subn M A M1) (hf:Frs M A B) (k:Subn M1 B M2):Subn M A M2:=fun b hb=>by
 rcases k b hb with q | q | ⟨cs,q⟩
 ·exact h b q
 ·exact .inr (.inl (Nat.le_trans hf.size q))
 ·rcases Nat.lt_or_ge b A.heap.size with hl | hl
  ·by_cases hm:M b
   ·exact .inl hm
   ·exact .inr (.inr ⟨cs,(hf.fr.same b hl hm).symm.trans q⟩)
  ·exact .inr (.inl hl)
def PT (w0 w:World) (M T:Nat→Prop):Prop:=∀ b,T b→w0.heap.size≤b∧¬ M b∧∃ cs,w.heap[b]?=some (.cells cs 30 (0,0))
def NdP (c:Rp) (r:Rv) (d:Nd) (M:Nat→Prop) (w:World) (C:Array Value) (w':World):Prop:=∃ M' T,Rs c r M' w'∧Subn M w M'∧Frs M w w'∧zL w' T C d.nm d.v d.m d.ks∧PT w w' M' T
def KdP (c:Rp) (r:Rv) (ks:F) (M:Nat→Prop) (w:World) (kv:Value) (w':World):Prop:=∃ M' T,Rs c r M' w'∧Subn M w M'∧Frs M w w'∧xA w' T kv ks∧PT w w' M' T
def UpAt (c:Rp) (w:World):Option (List ByteArray)→Value→Prop
 | none,v=>v=.pointer none
 | some ns,v=>∃ b,v=.pointer (some ⟨b,0,none⟩)∧Spot w (fun b=>c.lo≤b) ns b∧ns.length≤64∧∀ x∈ns,x.size≤255
theorem Spot.frs {c:Rp} {M:Nat→Prop} {w w':World} (hf:Frs M w w') {ns:List ByteArray} {b:Nat} (h:Spot w (fun b=>c.lo≤b) ns b):Spot w' (fun b=>c.lo≤b) ns b:=h.keep (fun _ q=>q) fun b cs _ hb=>hf.spot b cs hb
theorem ErrT.frs {c:Rp} {r:Rv} {M:Nat→Prop} {w w':World} (h:ErrT w) (h1:1<c.lo) (hR:Rs c r M w) (hf:Frs M w w'):ErrT w':=
 (World.cell?_of_block (w:=w) (a:=⟨1,0,none⟩) (hf.fr.same 1 (World.block_lt_of_cell? w _ h) fun q=>by have:=(hR.bnd 1 q).1;omega)).trans h
theorem Spot.chn {w:World} {D:Nat→Prop}:∀ {ns:List ByteArray} {b:Nat},Spot w D ns b→Spot w (fun x=>∃ cs,w.heap[x]?=some (.cells cs 167 (0,0))∧D x) ns b
 | [],_,⟨h1,h2⟩=>⟨⟨_,h2,h1⟩,h2⟩
 | _::_,_,⟨h1,u,h2,h3⟩=>⟨⟨_,h2,h1⟩,u,h2,Spot.chn h3⟩
def KI (c:Rp) (w0:World) (M:Nat→Prop) (B:Nat) (SC:Array Value) (r:Rv) (f:F) (u:Value) (W:World):Prop:=∃ M' T xs,
 Rs c r M' W∧Subn M w0 M'∧Frs M w0 W∧(W.heap[B]?=some (.cells SC 128 (0,0))∧¬ M' B∧w0.heap.size≤B)∧
 W.ownsRow w0.heap.size 30 41 u f.len xs∧ja W T f xs∧PT w0 W M' T∧(∀ b,T b→some b≠u.ownBlock)∧(∀ g,u.ownBlock=some g→¬ M' g)
theorem iI {w:World} {lo n g:Nat} {u:Value} {xs:List Value} (h:w.ownsRow lo 30 41 u n xs) (hg:u.ownBlock=some g):∃ cs,w.heap[g]?=some (.cells cs 30 (0,0)):=by
 obtain ⟨_,⟨rfl,_⟩ | ⟨g',cp,cur,rv,_,rh,_⟩⟩:=h
 ·cases hg
 ·rw [rv] at hg
  have:g'=g:=by simpa [Value.ownBlock] using hg
  subst this
  exact ⟨_,rh⟩
theorem KI.step {c:Rp} {w0 W W2 W4 W5:World} {M M2 T2:Nat→Prop} {B:Nat} {SC:Array Value} {r2:Rv} {f:F} {u u':Value} {d:Nd} {C:Array Value} {M' T:Nat→Prop} {xs:List Value}
  (h1:Subn M w0 M') (h2:Frs M w0 W) (h3:W.heap[B]?=some (.cells SC 128 (0,0))∧¬ M' B∧w0.heap.size≤B) (h4:W.ownsRow w0.heap.size 30 41 u f.len xs) (h5:ja W T f xs) (h6:PT w0 W M' T) (h7:∀ b,T b→some b≠u.ownBlock) (h8:∀ g,u.ownBlock=some g→¬ M' g)
  (k1:Rs c r2 M2 W2) (k2:Subn M' W M2) (k3:Frs M' W W2) (k4:zL W2 T2 C d.nm d.v d.m d.ks) (k5:PT W W2 M2 T2)
  (g4:G W2 W4) (ho:W5.ownsRow w0.heap.size 30 41 u' (f.len+1) (xs++C.toList)) (hg:W4.grownBy W5 u.ownBlock) (hat:u'.ownBlock=u.ownBlock∨u'.ownBlock=some W4.heap.size):
  KI c w0 M B SC r2 (f.app (.cons d.nm d.v d.m d.ks .nil)) u' W5:=by
 have hlu:=World.ownsRow.lt h4
 have hWs:=k3.size
 have h2s:=h2.size
 have g4s:=g4.size
 have hu2:∀ g,u.ownBlock=some g→¬ M2 g:=fun g e=>by
  obtain ⟨cs,q⟩:=iI h4 e
  exact k2.not q (by decide) (h8 g e)
 have hs:∀ b,b<W2.heap.size→some b≠u.ownBlock→W5.heap[b]?=W2.heap[b]?:=fun b hb hn=>(hg.block b (by omega) hn).trans (g4.block b hb)
 have hM2u:∀ b,M2 b→some b≠u.ownBlock:=fun b hb e=>hu2 b e.symm hb
 have hR5:Rs c r2 M2 W5:=k1.keep (by have:=hg.size;omega) fun b hb=>hs b (k1.bnd b hb).2 (hM2u b hb)
 have hF5:Frs M w0 W5:=by
  have q:=h2.transn h1 k3
  refine ⟨⟨hg.os.trans (g4.os.trans q.fr.os),hg.tape.trans (g4.tape.trans q.fr.tape),hg.output.trans (g4.output.trans q.fr.output),by have:=hg.size;omega,fun b hb hn=>?_⟩,fun b cs hm hb=>?_⟩
  ·exact (hs b (by omega) fun e=>by have:=(hlu b e.symm).1;omega).trans (q.fr.same b hb hn)
  ·have hlt:=(gS hb)
   exact (hs b (by omega) fun e=>by have:=(hlu b e.symm).1;omega).trans (q.sp b cs hm hb)
 have hBl:=(gS h3.1)
 have hBu:some B≠u.ownBlock:=fun e=>by
  obtain ⟨cs,q⟩:=iI h4 e.symm
  rw [h3.1] at q
  cases q
 have hB2:=(k3.fr.same B hBl h3.2.1).trans h3.1
 have hT:∀ b,T b→W5.heap[b]?=W.heap[b]?:=fun b hb=>by
  obtain ⟨q1,q2,cs,q3⟩:=h6 b hb
  have hl:=(gS q3)
  exact (hs b (by omega) (h7 b hb)).trans (k3.fr.same b hl q2)
 have hT2u:∀ b,T2 b→some b≠u.ownBlock:=fun b hb e=>by
  have:=(k5 b hb).1
  have:=(hlu b e.symm).2
  omega
 have hT2:∀ b,T2 b→W5.heap[b]?=W2.heap[b]?:=fun b hb=>by
  obtain ⟨q1,q2,cs,q3⟩:=k5 b hb
  exact hs b (gS q3) (hT2u b hb)
 obtain ⟨kv,hC,hkv⟩:=k4
 refine ⟨M2,fun b=>T b∨T2 b,xs++C.toList,hR5,h1.trans h2 k2,hF5,⟨(hs B (by omega) hBu).trans hB2,k2.not h3.1 (by decide) h3.2.1,h3.2.2⟩,?_,?_,?_,?_,?_⟩
 ·rw [F.aV];exact ho
 ·rw [hC]
  exact ja.snoc (hkv.keep fun b hb=>⟨hT2 b hb,.inr hb⟩) (h5.keep fun b hb=>⟨hT b hb,.inl hb⟩)
 ·rintro b (hb | hb)
  ·obtain ⟨q1,q2,cs,q3⟩:=h6 b hb
   exact ⟨q1,k2.not q3 (by decide) q2,cs,(hT b hb).trans q3⟩
  ·obtain ⟨q1,q2,cs,q3⟩:=k5 b hb
   exact ⟨by omega,q2,cs,(hT2 b hb).trans q3⟩
 ·rintro b hb e
  rcases hat with q | q
  ·rw [q] at e
   rcases hb with hb | hb
   ·exact h7 b hb e
   ·exact hT2u b hb e
  ·rw [q] at e
   have e:b=W4.heap.size:=by simpa using e
   rcases hb with hb | hb
   ·obtain ⟨q1,q2,cs,q3⟩:=h6 b hb
    have:=(gS q3)
    omega
   ·obtain ⟨q1,q2,cs,q3⟩:=k5 b hb
    have:=(gS q3)
    omega
 ·intro g e
  rcases hat with q | q
  ·exact hu2 g (q.symm.trans e)
  ·rw [q] at e
   have e:W4.heap.size=g:=by simpa using e
   intro hm
   have:=(k1.bnd g hm).2
   omega
attribute [local go_sem] Oper.semAt_some
def z128:Array Value:=(Value.pointer none::.int .i64 0::jw.map Su.vb).toArray
theorem oS:(Tryz.prog.info? 128).bind (·.zero)=some (.agg z128):=by kernel_rfl
theorem li:(Tryz.prog.info? 128).map (·.size)=some 34:=by kernel_rfl
theorem oT:(Tryz.prog.info? 128).map (fun i=>(i.zero,i.size,i.bytes))=some (some (.agg z128),34,48):=by kernel_rfl
theorem oU:z128.size=34:=rfl
theorem build128 (hb:Nat) (pl:Int) (w:World):(Instr.build 128 #[(0,.pointer (some ⟨hb,0,none⟩)),(1,.int .i64 pl)]).run Tryz.prog w=.ok (.agg (Value.pointer (some ⟨hb,0,none⟩)::.int .i64 pl::jw.map Su.vb).toArray) w:=by kernel_rfl
theorem sV (b:Nat) (s:Stp) (h:s.hash.length=32):(stc b s).toArray.size=34:=by simp [stc,h]
theorem oV (b:Nat) (s:Stp):(stc b s).toArray.all (·.oneCell')=true:=by
 simp only [stc,List.all_toArray,List.all_cons,List.all_map]
 simp [Value.oneCell']
 intro x _
 rfl
theorem sW (b:Nat) (ns:List ByteArray) (pl:Nat) (h:List Nat) (hl:h.length=32):over (stc b ⟨ns,pl,jw⟩) 2 (h.map Su.vb)=stc b ⟨ns,pl,h⟩:=by
 unfold over stc
 simp only [List.take_succ_cons,List.take_zero,List.length_map,hl,List.drop_succ_cons]
 rw [List.drop_of_length_le (by simp [jw])]
 simp
theorem eL {o:Oper} {a:Act} (x y:Operand) (ho:o.op=.build 128 #[(0,x),(1,y)]) (hb:Nat) (pl:Int) (hx:a.eval x=.pointer (some ⟨hb,0,none⟩)) (hy:a.eval y=.int .i64 pl) (w:World):
  (execOp a.eval o).run Tryz.prog w=.ok (.value (.agg (Value.pointer (some ⟨hb,0,none⟩)::.int .i64 pl::jw.map Su.vb).toArray)) w:=by
 unfold execOp
 simp only [ho]
 have:(#[(0,x),(1,y)].map fun (p:Nat × Operand)=>match p with | (i,x)=>(i,a.eval x))=#[(0,.pointer (some ⟨hb,0,none⟩)),(1,.int .i64 pl)]:=by simp [hx,hy]
 rw [this]
 simp only [Sem.run_bind,build128 hb pl w,Result.andThen_ok,Sem.run_pure]
theorem yt {o:Oper} {a:Act} (x:Operand) (ho:o.op=.buildSlice 77 1 #[(0,x)]) (c:Array Value) (hx:a.eval x=.agg c) (hs:c.size=34) (w:World) (b:Nat) (hb:w.heap.size=b):
  (execOp a.eval o).run Tryz.prog w=.ok (.value (.slice (some ⟨b,0,none⟩) 1 1)) (w.alloc (.cells c 128)):=by
 subst hb
 obtain ⟨i0,hi,hz0,hz1,hz2⟩:=info_parts oT
 have hf:Instr.fill (fun i=>some (i*34,34)) ((Array.range (1*34)).map (z128[·%z128.size]!)) [(0,.agg c)]=some c:=by
  obtain ⟨z,hz,hzl⟩:∃ z:List Value,((Array.range (1*34)).map (z128[·%z128.size]!))=z.toArray∧z.length=34:=⟨((Array.range (1*34)).map (z128[·%z128.size]!)).toList,Array.toArray_toList.symm,by simp⟩
  rw [hz,qy _ z 0 0 34 _ c.toList _ rfl (by simp [Value.cells]) (by simpa using hs) (by omega),Instr.fill]
  have hd:z.drop 34=[]:=List.drop_of_length_le (by omega)
  simp [over,hs,hd]
 have hsz:(sizeOf 128).run Tryz.prog w=.ok 34 w:=by simp [sizeOf,typeInfo,hi,hz1]
 have hzv:=aB 128 z128 oS w
 generalize z128=zz at hf hzv
 have hb:(Instr.buildSlice 77 1 #[(0,.agg c)]).run Tryz.prog w=.ok (.slice (some ⟨w.heap.size,0,none⟩) 1 1) (w.alloc (.cells c 128)):=by
  unfold Instr.buildSlice
  simp only [Sem.run_bind,run_underlying (show Tryz.prog.underlying 77=some (.slice 128) by kernel_rfl),Result.andThen_ok,hsz]
  have h1:¬ (1*34 > 2 ^ 24):=by omega
  have h2:¬ (1*34=0):=by omega
  simp only [h1,h2,if_false,Sem.run_bind,Sem.run_pure,Result.andThen_ok,hzv,Value.cells,hf]
  rfl
 unfold execOp
 simp only [ho]
 have hmap:(#[(0,x)].map fun (p:Nat × Operand)=>match p with | (i,x)=>(i,a.eval x))=#[(0,.agg c)]:=by simp [hx]
 rw [hmap]
 simp only [Sem.run_bind,hb,Result.andThen_ok,Sem.run_pure]
theorem Ro.stamp {c:Rp} {r:Rv} {M:Nat→Prop} {fp sv sv':Value} {xs:List Value} {w w1 w2:World} {s:Stp} {hb:Nat} (h:Ro c r M fp sv xs w) (hsp:Spot w (fun b=>c.lo≤b) s.names hb) (hn:s.names.length≤64) (hx:∀ x∈s.names,x.size≤255) (hh:s.hash.length=32)
  (hg1:G w w1) (ho:w2.ownsRow c.lo 128 34 sv' (r.st.length+1) (xs++stc hb s)) (hg:w1.grownBy w2 sv.ownBlock) (hat:sv'.ownBlock=sv.ownBlock∨sv'.ownBlock=some w1.heap.size):
  ∃ M',Rs c { r with st:=r.st++[s] } M' (w2.setCell ⟨c.X,4,none⟩ sv')∧Subn M w M'∧Frs M w (w2.setCell ⟨c.X,4,none⟩ sv')∧w2.frozen? ⟨c.X,4,none⟩=false∧w2.cell? ⟨c.X,4,none⟩=some sv∧(∀ b,b<w.heap.size→b≠c.X→some b≠sv.ownBlock→(w2.setCell ⟨c.X,4,none⟩ sv').heap[b]?=w.heap[b]?):=by
 have hXl:=(h.bnd _ h.mX).2
 have hXs:some c.X≠sv.ownBlock:=h.neS h.at_ (by decide)
 have hg1s:=hg1.size
 have hgs:=hg.size
 have hold:∀ b,b<w.heap.size→some b≠sv.ownBlock→w2.heap[b]?=w.heap[b]?:=fun b hb hn=>(hg.block b (by omega) hn).trans (hg1.block b hb)
 have hold3:∀ b,b<w.heap.size→b≠c.X→some b≠sv.ownBlock→(w2.setCell ⟨c.X,4,none⟩ sv').heap[b]?=w.heap[b]?:=fun b hb h1 h2=>(Below.heap_setCell _ _ _ _ h1).trans (hold b hb h2)
 have hX2:=(hold _ hXl hXs).trans h.at_
 have hM:∀ b cs T,M b→w.heap[b]?=some (.cells cs T (0,0))→T≠79→T≠128→(w2.setCell ⟨c.X,4,none⟩ sv').heap[b]?=w.heap[b]?:=fun b cs T h1 h2 h3 h4=>hold3 b (h.bnd b h1).2 (fun e=>by rw [e,h.at_] at h2;cases h2;exact h3 rfl) (h.neS h2 h4)
 have hsv:some c.X≠sv'.ownBlock:=fun e=>by
  rcases hat with q | q
  ·exact hXs (e.trans q)
  ·rw [q] at e
   have:c.X=w1.heap.size:=by simpa using e
   omega
 have hsp3:∀ (b:Nat) (cs:Array Value),w.heap[b]?=some (.cells cs 167 (0,0))→(w2.setCell ⟨c.X,4,none⟩ sv').heap[b]?=w.heap[b]?:=fun b cs hb=>hold3 b (gS hb) (fun e=>by rw [e,h.at_] at hb;cases hb) (h.neS hb (by decide))
 refine ⟨fun b=>M b∨some b=sv'.ownBlock∨∃ cs,w.heap[b]?=some (.cells cs 167 (0,0))∧c.lo≤b,⟨fp,sv',xs++stc hb s,?_⟩,?_,⟨⟨?_,?_,?_,?_,?_⟩,fun b cs _ hb=>hsp3 b cs hb⟩,by simp [World.frozen?,hX2],by simp [World.cell?,hX2],hold3⟩
 ·refine ⟨?_,h.rdk hM,h.lr,.inl h.mX,fun k q1 q2=>.inl (h.mR k q1 q2),h.fl.keep (fun _ q=>.inl q) fun b cs h1 h2=>hM b cs 93 h1 h2 (by decide) (by decide),?_,?_,fun k q=>.inr (.inl q.symm),?_⟩
  ·rw [Wi.jM _ hX2];rfl
  ·rw [lA]
   obtain ⟨h1,q | ⟨g,cp,cur,rv,rl,rh,rr⟩⟩:=ho
   ·exact ⟨h1,.inl q⟩
   ·exact ⟨h1,.inr ⟨g,cp,cur,rv,rl,(Below.heap_setCell _ _ _ _ (fun (e:g=c.X)=>hsv (by rw [rv,← e];rfl))).trans rh,rr⟩⟩
  ·refine StR.snoc hh hn hx (hsp.chn.keep (fun b q=>.inr (.inr q)) fun b cs _ hb=>hsp3 b cs hb) (h.st.keep (fun _ q=>.inl q) fun b cs h1 h2=>hsp3 b cs h2)
  ·intro b q
   rw [World.size_setCell]
   rcases q with q | q | ⟨cs,q,q2⟩
   ·exact ⟨(h.bnd b q).1,by have:=(h.bnd b q).2;omega⟩
   ·exact World.ownsRow.lt ho b q.symm
   ·exact ⟨q2,by have:=(gS q);omega⟩
 ·intro b q
  rcases q with q | q | ⟨cs,q,q2⟩
  ·exact .inl q
  ·rcases hat with e | e
   ·exact .inl (h.mS b (e.symm.trans q.symm))
   ·rw [e] at q
    have:b=w1.heap.size:=by simpa using q
    exact .inr (.inl (by omega))
  ·exact .inr (.inr ⟨cs,q⟩)
 ·exact hg.os.trans hg1.os
 ·exact hg.tape.trans hg1.tape
 ·exact hg.output.trans hg1.output
 ·rw [World.size_setCell];omega
 ·intro b hb hn
  exact hold3 b hb (fun e=>hn (e ▸ h.mX)) fun e=>hn (h.mS b e.symm)
end Go.Proofs.YtjikkhbcbfpocaaGreatDoor
