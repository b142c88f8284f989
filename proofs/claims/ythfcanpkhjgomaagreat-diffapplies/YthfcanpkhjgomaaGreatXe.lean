import Derived.Test.YthfcanpkhjgomaaGreatVu
set_option maxRecDepth 100000
set_option maxHeartbeats 4000000
namespace Go.Proofs.YthfcanpkhjgomaaGreat
open Go.RowKit
def HasE (w:World) (v:Value) (L:List Et):Prop:=(v=.slice none 0 0∧L=[])∨∃ g cap,v=.slice (some ⟨g,0,none⟩) L.length cap∧∀ i x,L[i]?=some x→Lies w g (i*40) (ec x)
theorem HasE.at {w:World} {ao:Option Addr} {n cp:Nat} {L:List Et} (h:HasE w (.slice ao n cp) L) {i:Nat} {x:Et} (hi:L[i]?=some x):∃ g,ao=some ⟨g,0,none⟩∧Lies w g (i*40) (ec x):=by
 rcases h with ⟨_,rfl⟩ | ⟨g,cap,e,h⟩
 ·simp at hi
 ·injection e with e1 _ _
  exact ⟨g,e1,h i x hi⟩
theorem HasE.below {w w':World} {v:Value} {L:List Et} (h:HasE w v L) (hb:Below w.heap.size w w'):HasE w' v L:=by
 rcases h with h | ⟨g,cap,e,h⟩
 ·exact .inl h
 ·exact .inr ⟨g,cap,e,fun i x hi=>(h i x hi).below hb⟩
theorem HasE.form {w:World} {v:Value} {L:List Et} (h:HasE w v L):∃ ao cap,v=.slice ao L.length cap:=by
 rcases h with ⟨rfl,rfl⟩ | ⟨g,cap,e,_⟩
 ·exact ⟨none,0,rfl⟩
 ·exact ⟨_,cap,e⟩
theorem OwnsE.has {w:World} {lo:Nat} {v:Value} {L:List Et} (h:OwnsE w lo v L):HasE w v L:=by
 have h0:=h
 obtain ⟨h1,⟨e,h2⟩ | ⟨g,cap,cur,e,_⟩⟩:=h
 ·exact .inl ⟨e,List.length_eq_zero_iff.1 h2⟩
 ·subst e
  refine .inr ⟨g,cap,rfl,fun i x hi j u hj=>?_⟩
  have hl:=(Array.getElem?_eq_some_iff.1 hj).1
  rw [ec_size] at hl
  exact h0.at (i*40+j) u (by unfold ecs;rw [Ch.flat_at ec_size hi hl];exact hj)
theorem ec_path (e:Et):(ec e)[0]?=some (.string e.p):=by simp [ec]
theorem ec_val (e:Et):(ec e).extract 1 36=(vx e.v).toArray:=by
 simp only [ec,List.extract_toArray,List.extract_eq_take_drop,List.drop_succ_cons,List.drop_zero]
 rw [List.take_append_of_le_length (by simp [jQ]),List.take_of_length_le (by simp [jQ])]
theorem lies_path {w:World} {g o:Nat} {e:Et} (h:Lies w g o (ec e)):w.cell? ⟨g,o,none⟩=some (.string e.p):=h 0 _ (ec_path e)
theorem ec_lies_val {w:World} {g o:Nat} {e:Et} (h:Lies w g o (ec e)):Lies w g (o+1) (vx e.v).toArray:=fun k u hk=>by
 rw [← ec_val,Array.getElem?_extract] at hk
 split at hk
 ·have:=h (1+k) u hk
  rw [Nat.add_assoc]
  exact this
 ·cases hk
def fnd (p:ByteArray):List Et→Nat→Int
 | [],_=>-1
 | e::L,k=>if e.p=p then (k:Int) else fnd p L (k+1)
theorem find75_any (ao:Option Addr) (cp:Nat) (L:List Et) (p:ByteArray) (w:World) (h:HasE w (.slice ao L.length cp) L) (hn:L.length≤1000000):
  Calls Tryz.prog 75 #[.slice ao L.length cp,.string p] w fun e w'=>e=.returned (.int .i64 (fnd p L 0))∧w'=w:=by
 obtain ⟨n,hn'⟩:∃ n,L.length=n:=⟨_,rfl⟩
 have HA:=hid h
 have HN:=hid hn'
 rw [hn'] at hn HA ⊢
 clear h hn'
 go_enter Tryz.func75,Tryz.ntmps75
 go_wp2
 go_loopg [5] n (fun gh i wr=>∃ k:Nat,k≤n∧gh=n-k∧i=.int .i64 (k:Int)∧wr=w∧Hid (fnd p L 0=fnd p (L.drop k) k))
 case atStart=>exact ⟨0,Nat.zero_le _,rfl,rfl,rfl,by show _=_;rw [List.drop_zero]⟩
 case round=>
  obtain ⟨k,hk,rfl,rfl,rfl,HR⟩:=hrel
  by_cases hlt:k<n
  ·have i1:(k:Int)<(n:Int):=by omega
   obtain ⟨r,hx⟩:∃ r,L[k]?=some r:=⟨L[k]'(by rw [HN.out];exact hlt),by simp⟩
   obtain ⟨ga,rfl,la⟩:=HA.out.at hx
   have hd:L.drop k=r::L.drop (k+1):=by
    rw [List.drop_eq_getElem_cons (by rw [HN.out];exact hlt)]
    rw [List.getElem?_eq_getElem (by rw [HN.out];exact hlt)] at hx
    injection hx with hx
    rw [hx]
   have hc:=lies_path la
   by_cases he:r.p=p
   ·have HE:Hid (fnd p L 0=(k:Int)):=by show _=_;rw [HR.out,hd,fnd,if_pos he]
    clear HR hd la hx HN
    go_wp2
    go_ret
    exact ⟨by rw [HE.out];rfl,rfl⟩
   ·have HE:Hid (fnd p L 0=fnd p (L.drop (k+1)) (k+1)):=by show _=_;rw [HR.out,hd,fnd,if_neg he]
    have hb:(r.p.toList==p.toList)=false:=by
     rw [beq_eq_false_iff_ne]
     exact fun h=>he (by rw [← ofB_tl r.p,← ofB_tl p];exact congrArg ofB h)
    clear HR hd la hx
    go_wp2
    go_roundg (n-(k+1))
    case measure=>omega
    case rel=>exact ⟨k+1,by omega,rfl,by go_num,rfl,HE⟩
  ·obtain rfl:k=n:=by omega
   have i1:¬ ((k:Int)<(k:Int)):=by omega
   have HE:Hid (fnd p L 0=-1):=by
    show _=_
    rw [HR.out,List.drop_of_length_le (by rw [HN.out];omega)]
    rfl
   clear HR HN
   go_wp2
   go_ret
   exact ⟨by rw [HE.out];rfl,rfl⟩
def fndV (p:ByteArray) (L:List Et):Vd:=((L.find? fun e=>e.p=p).map Et.v).getD Vd.zero
theorem fndV_at {p:ByteArray}:∀ {L:List Et} {k:Nat},(fnd p L k=-1∧fndV p L=Vd.zero)∨∃ i e,L[i]?=some e∧fnd p L k=((k+i:Nat):Int)∧fndV p L=e.v
 | [],_=>.inl ⟨rfl,rfl⟩
 | x::L,k=>by
  by_cases h:x.p=p
  ·exact .inr ⟨0,x,rfl,by rw [fnd,if_pos h];rfl,by simp [fndV,h]⟩
  ·have hv:fndV p (x::L)=fndV p L:=by simp [fndV,h]
   rw [fnd,if_neg h,hv]
   rcases fndV_at (p:=p) (L:=L) (k:=k+1) with h1 | ⟨i,e,h1,h2,h3⟩
   ·exact .inl h1
   ·exact .inr ⟨i+1,e,h1,by rw [h2];congr 1;omega,h3⟩
theorem refAt_any (nm:ByteArray) (v:Vd) (m:Md) (ks:F) (c:Array Value) (p:ByteArray) (w:World) (hN:HasN w c nm v m ks) (hw:ks.weight≤90000) (hs:ks.size≤500000):
  Calls Tryz.prog 33 #[.agg c,.string p] w fun e w'=>e=.returned (.agg (vx (fndV p (⟨⟨#[]⟩,v,m⟩::flatK ⟨#[]⟩ ks))).toArray)∧G w w':=by
 obtain ⟨L,hL⟩:∃ L:List Et,⟨⟨#[]⟩,v,m⟩::flatK ⟨#[]⟩ ks=L:=⟨_,rfl⟩
 have hlen:L.length≤1000000:=by rw [← hL,List.length_cons,qN];omega
 obtain ⟨B,hB⟩:∃ B,w.heap.size=B:=⟨_,rfl⟩
 obtain ⟨w0,hw0⟩:∃ w0,(w.alloc (.cells c 30)).alloc (.cells vzA 24)=w0:=⟨_,rfl⟩
 have g0:G w w0:=by rw [← hw0];exact (G.alloc w _).trans (G.alloc _ _)
 have hB1:(w.alloc (.cells c 30)).heap.size=B+1:=by rw [World.size_alloc,hB]
 have r0:Var w0 B c:=by rw [← hw0,← hB];exact (heap_alloc_old _ _ (by simp)).trans (heap_alloc_new _ _)
 have a0:w0.heap[B+1]?=some (.cells vzA 24 (0,0)):=by rw [← hw0,← hB1];exact heap_alloc_new _ _
 have hcs:c.size=41:=by obtain ⟨_,rfl,_⟩:=hN;exact jZ ..
 have CF:=hid (flat20_any nm v m ks c w0 (hN.below g0) hw)
 rw [hL] at CF ⊢
 have H0:=hid (And.intro r0 (And.intro a0 (And.intro g0 (And.intro hB1 hw0))))
 have HLN:=hid hlen
 clear hN r0 a0 g0 hB1 hw0 hL hlen
 go_enter Tryz.func33,Tryz.ntmps33
 go_upto_region 3 with (first
  | ((with_reducible refine jJ (.pointer (some ⟨B+1,0,none⟩)) w0 ?_ ?_ ?_);(rw [← H0.out.2.2.2.2];exact Ch.exec_allocT 24 vzA rfl zero24v _ _ H0.out.2.2.2.1);kernel_rfl)
  | ((with_reducible refine jA (.agg c) ?_ ?_ ?_);exact jH _ rfl B 0 rfl c hcs H0.out.1.lies;kernel_rfl)
  | (go_at_call 32;refine CF.out.mono ?_;rintro e w1 ⟨g,n,cap,rfl,ow,g1⟩;have HE:=ow.has;obtain ⟨ao,cp,e1⟩:=HE.form;injection e1 with e1 e2 e3;subst e1;subst e2;subst e3;have H1:=hid (And.intro HE g1);have C75:=find75_any (some ⟨g,0,none⟩) cap L p w1 HE HLN.out;clear ow HE g1 CF)
  | (go_at_call 75;refine C75.mono ?_;rintro e w2 ⟨rfl,e2⟩;subst e2))
 have hr:=(H1.out.2.block (B+1) (Array.getElem?_eq_some_iff.1 H0.out.2.1).1).trans H0.out.2.1
 rcases fndV_at (p:=p) (L:=L) (k:=0) with ⟨h1,h2⟩ | ⟨i,e,h1,h2,h3⟩
 ·rw [h1]
  go_wp2_with (first
   | ((with_reducible refine jA (.agg vzA) ?_ ?_ ?_);exact jR 24 rfl vzA (by kernel_rfl) _;kernel_rfl)
   | ((with_reducible refine jP (w2.setRow (B+1) vzA) ?_ ?_ ?_);exact Ch.exec_storeT 24 _ _ rfl (B+1) vzA vzA rfl rfl _ hr (by rw [size24v];rfl) rfl (by kernel_rfl);kernel_rfl))
  refine bodyPost_ret (results_cell_row (P:=Tryz.prog) (p:=4) (ty:=24) rfl _ _ (B+1) 24 vzA (0,0) _ rfl (setRow_heap _ _ vzA vzA 24 _ hr) under24v rfl (by rw [size24v];rfl)) rfl ?_
  have b1:=H0.out.2.2.1.trans H1.out.2
  exact ⟨by first | rfl | (rw [h2];rfl),b1.os,b1.tape,b1.output,by have:=b1.size;simpa using this,fun b hb=>(setRow_other _ _ _ _ (by omega)).trans (b1.block b hb)⟩
 ·rw [h2,Nat.zero_add]
  obtain ⟨g',e',le⟩:=H1.out.1.at h1
  cases e'
  have hi:i<L.length:=(List.getElem?_eq_some_iff.1 h1).1
  have i1:¬ ((i:Nat):Int)<0:=by omega
  have i2:(0:Int)≤(i:Int):=by omega
  have i3:(i:Int)<(L.length:Int):=by omega
  have HLE:=hid (ec_lies_val le)
  obtain ⟨Y,hY⟩:∃ Y,(vx e.v).toArray=Y:=⟨_,rfl⟩
  have HY:Hid (Y.size=35∧Y.all (·.oneCell')=true):=⟨by rw [← hY];simp [jQ],by rw [← hY];exact vx_oneM e.v⟩
  rw [hY] at HLE
  clear le
  go_wp2_with (first
   | ((with_reducible refine jA (.agg Y) ?_ ?_ ?_);exact jE _ rfl g (i*40+1) rfl Y HY.out.1 HLE.out;kernel_rfl)
   | ((with_reducible refine jP (w2.setRow (B+1) Y) ?_ ?_ ?_);exact Ch.exec_storeT 24 _ _ rfl (B+1) Y vzA rfl rfl _ hr (by rw [size24v,HY.out.1]) (by rw [HY.out.1];rfl) HY.out.2;kernel_rfl))
  refine bodyPost_ret (results_cell_row (P:=Tryz.prog) (p:=4) (ty:=24) rfl _ _ (B+1) 24 Y (0,0) _ rfl (setRow_heap _ _ vzA Y 24 _ hr) under24v rfl (by rw [size24v,HY.out.1])) rfl ?_
  have b1:=H0.out.2.2.1.trans H1.out.2
  exact ⟨by first | rfl | (rw [h3,hY]),b1.os,b1.tape,b1.output,by have:=b1.size;simpa using this,fun b hb=>(setRow_other _ _ _ _ (by omega)).trans (b1.block b hb)⟩
def rightR (v:Vd):Bool:=decide (v=Vd.zero)||(decide (v.kind≠0)&&rightVB v)
theorem right35_any (v:Vd) (X:Array Value) (hX:X=(vx v).toArray) (w:World):Calls Tryz.prog 35 #[.agg X] w fun e w'=>e=.returned (.bool (rightR v))∧G w w':=by
 obtain ⟨B,hB⟩:∃ B,w.heap.size=B:=⟨_,rfl⟩
 obtain ⟨w0,hw0⟩:∃ w0,w.alloc (.cells X 24)=w0:=⟨_,rfl⟩
 have g0:G w w0:=by rw [← hw0];exact G.alloc _ _
 have l0:Lies w0 B 0 X:=by rw [← hw0,← hB];exact jh _ _ _
 have c0:w0.cell? ⟨B,0,none⟩=some (.int .i64 v.kind):=jG l0 0 (.int .i64 v.kind) (by rw [hX];rfl)
 have hs:X.size=35:=by rw [hX];simp [jQ]
 have CR:=hid (right_any v X hX w0)
 have H0:=hid (And.intro g0 l0)
 have HX:=hid hX
 clear g0 l0 hX
 obtain ⟨k,hk⟩:∃ k,v.kind=k:=⟨_,rfl⟩
 rw [hk] at c0
 have HK:=hid hk
 clear hk
 go_enter Tryz.func35,Tryz.ntmps35
 go_upto_region 1 with fail
 clear hw0
 by_cases hz:v=Vd.zero
 ·have HR:Hid (rightR v=true):=by show _=_;unfold rightR;rw [decide_eq_true hz];rfl
  have HZ:=hid hz
  clear hz
  go_wp2_with (first
   | ((with_reducible refine jA (.agg X) ?_ ?_ ?_);exact jE _ rfl B 0 rfl X hs H0.out.2;kernel_rfl)
   | ((with_reducible refine jA (.agg vzA) ?_ ?_ ?_);exact jR 24 rfl vzA (by kernel_rfl) _;kernel_rfl)
   | ((with_reducible refine jA (.bool true) ?_ ?_ ?_);exact exec_eq24' _ _ rfl X vzA rfl rfl v Vd.zero HX.out rfl true (decide_eq_true HZ.out) _;kernel_rfl))
  go_ret
  exact ⟨by rw [HR.out];rfl,H0.out.1⟩
 ·have HZ:Hid (decide (v=Vd.zero)=false):=decide_eq_false hz
  clear hz
  by_cases hk0:k=0
  ·subst hk0
   have HR:Hid (rightR v=false):=by show _=_;unfold rightR;rw [HZ.out,HK.out];rfl
   go_wp2_with (first
    | ((with_reducible refine jA (.agg X) ?_ ?_ ?_);exact jE _ rfl B 0 rfl X hs H0.out.2;exact rfl)
    | ((with_reducible refine jA (.agg vzA) ?_ ?_ ?_);exact jR 24 rfl vzA (by kernel_rfl) _;kernel_rfl)
    | ((with_reducible refine jA (.bool false) ?_ ?_ ?_);exact exec_eq24' _ _ rfl X vzA rfl rfl v Vd.zero HX.out rfl false HZ.out _;kernel_rfl))
   go_ret
   exact ⟨by rw [HR.out];rfl,H0.out.1⟩
  ·have h1:(k != 0)=true:=by simpa using hk0
   have HR:Hid (rightR v=rightVB v):=by show _=_;unfold rightR;rw [HZ.out,HK.out,decide_eq_true hk0];rfl
   obtain ⟨b,hb⟩:∃ b,rightVB v=b:=⟨_,rfl⟩
   rw [hb] at CR HR
   clear hb hk0
   go_wp2_with (first
    | ((with_reducible refine jA (.agg X) ?_ ?_ ?_);exact jE _ rfl B 0 rfl X hs H0.out.2;kernel_rfl)
    | ((with_reducible refine jA (.agg vzA) ?_ ?_ ?_);exact jR 24 rfl vzA (by kernel_rfl) _;kernel_rfl)
    | ((with_reducible refine jA (.bool false) ?_ ?_ ?_);exact exec_eq24' _ _ rfl X vzA rfl rfl v Vd.zero HX.out rfl false HZ.out _;kernel_rfl)
    | (go_at_call 78;refine CR.out.mono ?_;rintro e w1 ⟨rfl,g1⟩;have H1:=hid g1;clear g1))
   go_ret
   exact ⟨by rw [HR.out];rfl,H0.out.1.trans H1.out⟩
open DO (Srt)
def pth (M:List ByteArray):ByteArray:=ofB (joinL (M.map tl))
def goodM (M:List ByteArray):Prop:=∀ x∈M,nameB (tl x)=true
theorem goodM.snoc {M:List ByteArray} (h:goodM M) {n:ByteArray} (hn:nameB (tl n)=true):goodM (M++[n]):=fun y hy=>by
 rcases List.mem_append.1 hy with hy | hy
 ·exact h y hy
 ·simp at hy;rw [hy];exact hn
theorem map_ofB_tl (M:List ByteArray):(M.map tl).map ofB=M:=by
 rw [List.map_map]
 conv=>rhs;rw [← List.map_id M]
 exact List.map_congr_left fun x _=>ofB_tl x
theorem cut_pth {M:List ByteArray} (h:goodM M):cutN (pth M)=M:=by
 unfold cutN pth
 rw [qF,qA (good_map h),map_ofB_tl]
theorem pth_cut {p:ByteArray} (_h:splitE (tl p) 64=0):pth (cutN p)=p:=by
 unfold pth
 rw [cutN_tl,join_pieces,ofB_tl]
theorem cut_good {p:ByteArray} (h:splitE (tl p) 64=0):goodM (cutN p):=fun x hx=>(names_split h).1 x hx
theorem belowS_pth {M:List ByteArray} (h:goodM M) (n:ByteArray):belowS (pth M) n=pth (M++[n]):=by
 unfold pth
 rw [belowS_join (good_map h),List.map_append]
 rfl
theorem FK_mem:∀ {f:F} {L:List ByteArray} {e:Et},f.rises→goodN f→goodM L→(e∈flatK (pth L) f↔∃ n M,e.p=pth (L++n::M)∧((f.get n).bind fun s=>val s M)=some (e.v,e.m))
 | .nil,L,e,_,_,_=>by simp [flatK,F.get]
 | .cons nm v m k r,L,e,h,⟨g1,g2,g3⟩,hL=>by
  obtain ⟨hab,hk,hr⟩:r.above nm∧k.rises∧r.rises:=by simpa [F.rises] using h
  rw [flatK,belowS_pth hL,List.mem_append,List.mem_cons,FK_mem hk g2 (hL.snoc g1),FK_mem hr g3 hL]
  constructor
  ·rintro ((rfl | ⟨n,M,e1,e2⟩) | ⟨n,M,e1,e2⟩)
   ·exact ⟨nm,[],rfl,by rw [F.get_cons_eq];rfl⟩
   ·refine ⟨nm,n::M,by rw [e1];simp,?_⟩
    rw [F.get_cons_eq,Option.bind_some,jY]
    exact e2
   ·refine ⟨n,M,e1,?_⟩
    rw [F.get,if_neg]
    ·exact e2
    ·rintro rfl
     rw [F.get_above hab] at e2
     cases e2
  ·rintro ⟨n,M,e1,e2⟩
   by_cases hn:nm=n
   ·subst hn
    rw [F.get_cons_eq,Option.bind_some] at e2
    left
    cases M with
    | nil=>
     left
     rw [qO] at e2
     injection e2 with e2
     injection e2 with e3 e4
     cases e
     simp only at e1 e3 e4
     rw [e1,e3,e4]
    | cons x N=>
     right
     rw [jY] at e2
     exact ⟨x,N,by rw [e1];simp,e2⟩
   ·right
    rw [F.get,if_neg fun q=>hn q.symm] at e2
    exact ⟨n,M,e1,e2⟩
def FL (t:T3):List Et:=⟨⟨#[]⟩,t.1,t.2.1⟩::flatK ⟨#[]⟩ t.2.2
theorem FL_mem {t:T3} (ht:Good t) {e:Et}:e∈FL t↔∃ M,e.p=pth M∧val t M=some (e.v,e.m):=by
 have h0:(⟨#[]⟩:ByteArray)=pth []:=rfl
 unfold FL
 rw [h0,List.mem_cons,FK_mem ht.rises (check_rise ht.c).2 (fun x hx=>by cases hx)]
 constructor
 ·rintro (rfl | ⟨n,M,e1,e2⟩)
  ·exact ⟨[],rfl,rfl⟩
  ·exact ⟨n::M,e1,by rw [jY];exact e2⟩
 ·rintro ⟨M,e1,e2⟩
  cases M with
  | nil=>
   left
   rw [qO] at e2
   injection e2 with e2
   injection e2 with e3 e4
   cases e
   simp only at e1 e3 e4
   rw [e1,e3,e4]
  | cons n M=>exact .inr ⟨n,M,e1,by rw [← jY];exact e2⟩
theorem val_good {t:T3} (ht:Good t) {M:List ByteArray} {x:Vd × Md} (h:val t M=some x):goodM M∧M.length≤64:=by
 obtain ⟨s,hs,_⟩:=dn_some h
 have:=ht.names hs
 exact ⟨this.1,this.2.1⟩
def ltE (a b:Et):Prop:=cmpL (tl a.p) (tl b.p)<0
theorem Tells2.mem {A:List Et} {B:List DO.Ent} (h:Tells2 A B):∀ e∈A,∃ d∈B,Tells e d:=by
 induction h with
 | nil=>simp
 | cons h _ ih=>
  intro e he
  rcases List.mem_cons.1 he with rfl | he
  ·exact ⟨_,List.mem_cons_self,h⟩
  ·obtain ⟨d,hd,k⟩:=ih e he
   exact ⟨d,List.mem_cons_of_mem _ hd,k⟩
theorem Tells2.srt {A:List Et} {B:List DO.Ent} (h:Tells2 A B) (hs:Srt B):A.Pairwise ltE:=by
 induction h with
 | nil=>exact .nil
 | cons h t ih=>
  obtain ⟨h1,h2⟩:=List.pairwise_cons.1 hs
  refine List.pairwise_cons.2 ⟨fun b hb=>?_,ih h2⟩
  obtain ⟨d,hd,k⟩:=t.mem b hb
  unfold ltE
  rw [h.1,k.1,qF,qF,cmpL_join h.2.2 k.2.2,h1 d hd]
  decide
theorem FL_srt {t:T3} (ht:Good t):(FL t).Pairwise ltE:=by
 have h:Tells2 (FL t) (flatT t):=by
  refine .cons ⟨rfl,rfl,fun x hx=>by cases hx⟩ ?_
  exact flat_tells t.2.2 [] (fun x hx=>by cases hx) (check_rise ht.c).2
 exact h.srt ht.srt
theorem fnd_FL {t:T3} (ht:Good t) {p:ByteArray} (hp:splitE (tl p) 64=0):fndV p (FL t)=atV t p:=by
 unfold atV
 rw [sub_names hp]
 unfold fndV
 cases hf:(FL t).find? (fun e=>e.p=p) with
 | some e=>
  have h1:e.p=p:=by simpa using List.find?_some hf
  obtain ⟨M,h2,h3⟩:=(FL_mem ht).1 (List.mem_of_find?_eq_some hf)
  have h4:cutN p=M:=by rw [← h1,h2,cut_pth (val_good ht h3).1]
  obtain ⟨s,h5,h6⟩:=dn_some h3
  rw [h4,h5]
  show e.v=s.1
  injection h6
 | none=>
  cases hd:dn t (cutN p) with
  | none=>rfl
  | some s=>
   have h1:=(FL_mem ht (e:=⟨p,s.1,s.2.1⟩)).2 ⟨cutN p,(pth_cut hp).symm,val_some hd⟩
   rw [List.find?_eq_none] at hf
   exact absurd (by simp) (hf _ h1)
end Go.Proofs.YthfcanpkhjgomaaGreat
namespace Go.Proofs.YthfcanpkhjgomaaGreat
open Go.RowKit Ch
def neE (c:Cd):Et:=⟨c.path,vcV c.new,Md.zero⟩
def mrg:Nat→List Et→List Cd→Option (List Et)
 | 0,_,_=>some []
 | _+1,[],[]=>some []
 | f+1,h::H,[]=>(mrg f H []).map (h::·)
 | f+1,[],c::C=>if rightR (vcV c.new)=false then none else (mrg f [] C).map fun O=>if c.new.kind≠0 then neE c::O else O
 | f+1,h::H,c::C=>
  if cmpL (tl h.p) (tl c.path)<0 then (mrg f H (c::C)).map (h::·)
  else if rightR (vcV c.new)=false then none
  else (mrg f (if cmpL (tl h.p) (tl c.path)=0 then H else h::H) C).map fun O=>if c.new.kind≠0 then neE c::O else O
def MrgIs (H:List Et) (C:List Cd) (O:List Et):Prop:=(∀ c∈C,rightR (vcV c.new)=true)∧O.Pairwise ltE∧∀ e,e∈O↔(e∈H∧∀ c∈C,c.path≠e.p)∨∃ c∈C,c.new.kind≠0∧e=neE c
theorem ltE_ne {a b:Et} (h:ltE a b):a.p≠b.p:=fun e=>by
 unfold ltE at h
 rw [e,cmpL_self] at h
 omega
theorem MrgIs.keep {h:Et} {H:List Et} {C:List Cd} {O:List Et} (hh:∀ e∈H,ltE h e) (hc:∀ c∈C,cmpL (tl h.p) (tl c.path)<0) (m:MrgIs H C O):MrgIs (h::H) C (h::O):=by
 refine ⟨m.1,List.pairwise_cons.2 ⟨fun e he=>?_,m.2.1⟩,fun e=>?_⟩
 ·rcases (m.2.2 e).1 he with ⟨h1,_⟩ | ⟨c,h1,_,rfl⟩
  ·exact hh e h1
  ·exact hc c h1
 ·have hp:∀ c∈C,c.path≠h.p:=fun c k e=>by have:=hc c k;rw [e,cmpL_self] at this;omega
  rw [List.mem_cons,List.mem_cons,m.2.2 e]
  constructor
  ·rintro (rfl | ⟨h1,h2⟩ | h1)
   ·exact .inl ⟨.inl rfl,hp⟩
   ·exact .inl ⟨.inr h1,h2⟩
   ·exact .inr h1
  ·rintro (⟨rfl | h1,h2⟩ | h1)
   ·exact .inl rfl
   ·exact .inr (.inl ⟨h1,h2⟩)
   ·exact .inr (.inr h1)
theorem MrgIs.take {c:Cd} {H H':List Et} {C:List Cd} {O:List Et} (hr:rightR (vcV c.new)=true) (hH:∀ e,e∈H'↔e∈H∧e.p≠c.path) (hh:∀ e∈H',cmpL (tl c.path) (tl e.p)<0) (hc:∀ d∈C,ltP c d) (m:MrgIs H' C O):
  MrgIs H (c::C) (if c.new.kind≠0 then neE c::O else O):=by
 have hlt:∀ e∈O,ltE (neE c) e:=fun e he=>by
  rcases (m.2.2 e).1 he with ⟨h1,_⟩ | ⟨d,h1,_,rfl⟩
  ·exact hh e h1
  ·exact hc d h1
 refine ⟨fun d hd=>?_,?_,fun e=>?_⟩
 ·rcases List.mem_cons.1 hd with rfl | hd
  ·exact hr
  ·exact m.1 d hd
 ·split
  ·exact List.pairwise_cons.2 ⟨hlt,m.2.1⟩
  ·exact m.2.1
 ·have key:e∈O↔(e∈H∧∀ d∈c::C,d.path≠e.p)∨∃ d∈C,d.new.kind≠0∧e=neE d:=by
   rw [m.2.2 e,hH]
   constructor
   ·rintro (⟨⟨h1,h2⟩,h3⟩ | h1)
    ·refine .inl ⟨h1,fun d hd=>?_⟩
     rcases List.mem_cons.1 hd with rfl | hd
     ·exact fun q=>h2 q.symm
     ·exact h3 d hd
    ·exact .inr h1
   ·rintro (⟨h1,h2⟩ | h1)
    ·exact .inl ⟨⟨h1,fun q=>h2 c (by simp) q.symm⟩,fun d hd=>h2 d (List.mem_cons_of_mem _ hd)⟩
    ·exact .inr h1
  split
  ·rename_i hk
   rw [List.mem_cons,key]
   constructor
   ·rintro (rfl | h1 | ⟨d,h1,h2⟩)
    ·exact .inr ⟨c,by simp,hk,rfl⟩
    ·exact .inl h1
    ·exact .inr ⟨d,List.mem_cons_of_mem _ h1,h2⟩
   ·rintro (h1 | ⟨d,h1,h2,h3⟩)
    ·exact .inr (.inl h1)
    ·rcases List.mem_cons.1 h1 with rfl | h1
     ·exact .inl h3
     ·exact .inr (.inr ⟨d,h1,h2,h3⟩)
  ·rename_i hk
   rw [key]
   constructor
   ·rintro (h1 | ⟨d,h1,h2⟩)
    ·exact .inl h1
    ·exact .inr ⟨d,List.mem_cons_of_mem _ h1,h2⟩
   ·rintro (h1 | ⟨d,h1,h2,h3⟩)
    ·exact .inl h1
    ·rcases List.mem_cons.1 h1 with rfl | h1
     ·exact absurd h2 hk
     ·exact .inr ⟨d,h1,h2,h3⟩
theorem mrg_spec:∀ (f:Nat) (H:List Et) (C:List Cd),H.length+C.length<f→H.Pairwise ltE→C.Pairwise ltP→
  (mrg f H C=none→∃ c∈C,rightR (vcV c.new)=false)∧∀ O,mrg f H C=some O→MrgIs H C O
 | 0,H,C,h,_,_=>by omega
 | f+1,[],[],_,_,_=>⟨(fun h=>by cases h),fun O h=>by cases h;exact ⟨by simp,.nil,by simp⟩⟩
 | f+1,h::H,[],hf,hH,hC=>by
  simp only [List.length_cons,List.length_nil] at hf
  obtain ⟨h1,h2⟩:=List.pairwise_cons.1 hH
  obtain ⟨i1,i2⟩:=mrg_spec f H [] (by simp only [List.length_nil];omega) h2 .nil
  rw [mrg]
  cases e:mrg f H [] with
  | none=>exact ⟨fun _=>i1 e,fun O q=>by cases q⟩
  | some O=>exact ⟨(fun q=>by cases q),fun O' q=>by cases q;exact (i2 O e).keep h1 (by simp)⟩
 | f+1,[],c::C,hf,_,hC=>by
  simp only [List.length_cons,List.length_nil] at hf
  obtain ⟨h1,h2⟩:=List.pairwise_cons.1 hC
  obtain ⟨i1,i2⟩:=mrg_spec f [] C (by simp only [List.length_nil];omega) .nil h2
  rw [mrg]
  by_cases hr:rightR (vcV c.new)=false
  ·rw [if_pos hr]
   exact ⟨fun _=>⟨c,by simp,hr⟩,fun O q=>by cases q⟩
  ·rw [if_neg hr]
   cases e:mrg f [] C with
   | none=>exact ⟨fun _=>by obtain ⟨d,hd,k⟩:=i1 e;exact ⟨d,List.mem_cons_of_mem _ hd,k⟩,fun O q=>by cases q⟩
   | some O=>exact ⟨(fun q=>by cases q),fun O' q=>by cases q;exact (i2 O e).take (by simpa using hr) (by simp) (by simp) h1⟩
 | f+1,h::H,c::C,hf,hH,hC=>by
  simp only [List.length_cons] at hf
  obtain ⟨h1,h2⟩:=List.pairwise_cons.1 hH
  obtain ⟨k1,k2⟩:=List.pairwise_cons.1 hC
  rw [mrg]
  by_cases hl:cmpL (tl h.p) (tl c.path)<0
  ·rw [if_pos hl]
   obtain ⟨i1,i2⟩:=mrg_spec f H (c::C) (by simp only [List.length_cons];omega) h2 hC
   cases e:mrg f H (c::C) with
   | none=>exact ⟨fun _=>i1 e,fun O q=>by cases q⟩
   | some O=>
    refine ⟨(fun q=>by cases q),fun O' q=>?_⟩
    cases q
    refine (i2 O e).keep h1 fun d hd=>?_
    rcases List.mem_cons.1 hd with rfl | hd
    ·exact hl
    ·exact cmpL_lt hl (k1 d hd)
  ·rw [if_neg hl]
   by_cases hr:rightR (vcV c.new)=false
   ·rw [if_pos hr]
    exact ⟨fun _=>⟨c,by simp,hr⟩,fun O q=>by cases q⟩
   ·rw [if_neg hr]
    by_cases h0:cmpL (tl h.p) (tl c.path)=0
    ·rw [if_pos h0]
     have hpc:h.p=c.path:=by
      have:=(cmpL_zero _ _).1 h0
      rw [← ofB_tl h.p,← ofB_tl c.path,this]
     obtain ⟨i1,i2⟩:=mrg_spec f H C (by omega) h2 k2
     cases e:mrg f H C with
     | none=>exact ⟨fun _=>by obtain ⟨d,hd,k⟩:=i1 e;exact ⟨d,List.mem_cons_of_mem _ hd,k⟩,fun O q=>by cases q⟩
     | some O=>
      refine ⟨(fun q=>by cases q),fun O' q=>?_⟩
      cases q
      refine (i2 O e).take (by simpa using hr) (fun x=>?_) (fun x hx=>?_) k1
      ·rw [List.mem_cons]
       constructor
       ·exact fun hx=>⟨.inr hx,fun q=>ltE_ne (h1 x hx) (by rw [hpc,q])⟩
       ·rintro ⟨rfl | hx,hn⟩
        ·exact absurd hpc hn
        ·exact hx
      ·have:=h1 x hx
       unfold ltE at this
       rwa [hpc] at this
    ·rw [if_neg h0]
     have hg:cmpL (tl c.path) (tl h.p)<0:=by rw [cmpL_neg];omega
     obtain ⟨i1,i2⟩:=mrg_spec f (h::H) C (by simp only [List.length_cons];omega) hH k2
     have hlt:∀ x∈h::H,cmpL (tl c.path) (tl x.p)<0:=fun x hx=>by
      rcases List.mem_cons.1 hx with rfl | hx
      ·exact hg
      ·exact cmpL_lt hg (h1 x hx)
     cases e:mrg f (h::H) C with
     | none=>exact ⟨fun _=>by obtain ⟨d,hd,k⟩:=i1 e;exact ⟨d,List.mem_cons_of_mem _ hd,k⟩,fun O q=>by cases q⟩
     | some O=>
      refine ⟨(fun q=>by cases q),fun O' q=>?_⟩
      cases q
      refine (i2 O e).take (by simpa using hr) (fun x=>?_) hlt k1
      exact ⟨fun hx=>⟨hx,fun q=>by have:=hlt x hx;rw [q,cmpL_self] at this;omega⟩,fun hx=>hx.1⟩
theorem srt_ext:∀ {A B:List Et},A.Pairwise ltE→B.Pairwise ltE→(∀ e,e∈A↔e∈B)→A=B
 | [],[],_,_,_=>rfl
 | [],b::B,_,_,h=>by have:=(h b).2 (by simp);cases this
 | a::A,[],_,_,h=>by have:=(h a).1 (by simp);cases this
 | a::A,b::B,hA,hB,h=>by
  obtain ⟨a1,a2⟩:=List.pairwise_cons.1 hA
  obtain ⟨b1,b2⟩:=List.pairwise_cons.1 hB
  have no:∀ {x y:Et},ltE x y→¬ ltE y x:=fun {x y} p q=>by
   have:=cmpL_lt p q
   rw [cmpL_self] at this
   omega
  have hab:a=b:=by
   rcases List.mem_cons.1 ((h a).1 (by simp)) with e | ha
   ·exact e
   ·rcases List.mem_cons.1 ((h b).2 (by simp)) with e | hb
    ·exact e.symm
    ·exact absurd (a1 b hb) (no (b1 a ha))
  subst hab
  refine congrArg (a::·) (srt_ext a2 b2 fun e=>?_)
  have:=h e
  rw [List.mem_cons,List.mem_cons] at this
  constructor
  ·intro he
   rcases this.1 (.inr he) with rfl | k
   ·exact absurd (a1 _ he) (fun q=>no q q)
   ·exact k
  ·intro he
   rcases this.2 (.inr he) with rfl | k
   ·exact absurd (b1 _ he) (fun q=>no q q)
   ·exact k
def upP (p:ByteArray):ByteArray:=pth (cutN p).dropLast
theorem up_pth {M:List ByteArray} (h:goodM M):upP (pth M)=pth M.dropLast:=by unfold upP;rw [cut_pth h]
def treeR:List Et→Bool
 | []=>false
 | e::r=>decide (e.p=⟨#[]⟩)&&r.all fun x=>decide ((fndV (upP x.p) (e::r)).kind=1)
theorem fndV_mem:∀ {O:List Et} {e:Et},O.Pairwise ltE→e∈O→fndV e.p O=e.v
 | a::O,e,h,he=>by
  obtain ⟨h1,h2⟩:=List.pairwise_cons.1 h
  by_cases hp:a.p=e.p
  ·have:a=e:=by
    rcases List.mem_cons.1 he with rfl | he
    ·rfl
    ·exact absurd hp (ltE_ne (h1 e he))
   subst this
   simp [fndV]
  ·have:e∈O:=by
    rcases List.mem_cons.1 he with rfl | he
    ·exact absurd rfl hp
    ·exact he
   have e1:fndV e.p (a::O)=fndV e.p O:=by simp [fndV,hp]
   rw [e1,fndV_mem h2 this]
theorem fndV_dir {p:ByteArray} {O:List Et} (h:(fndV p O).kind=1):∃ e∈O,e.p=p∧e.v.kind=1:=by
 unfold fndV at h
 cases hf:O.find? (fun e=>e.p=p) with
 | none=>rw [hf] at h;cases h
 | some e=>
  rw [hf] at h
  exact ⟨e,List.mem_of_find?_eq_some hf,by simpa using List.find?_some hf,h⟩
theorem pth_nil {M:List ByteArray} (h:goodM M) (e:pth M=⟨#[]⟩):M=[]:=by
 have:=cut_pth h
 rw [e] at this
 rw [← this]
 exact cut_pth (M:=[]) (fun x hx=>by cases hx)
theorem treeR_up {O:List Et} (hs:O.Pairwise ltE) (h:treeR O=true) {e:Et} (he:e∈O) (hn:e.p≠⟨#[]⟩):∃ d∈O,d.p=upP e.p∧d.v.kind=1:=by
 cases O with
 | nil=>cases he
 | cons a r=>
  simp only [treeR,Bool.and_eq_true,decide_eq_true_eq,List.all_eq_true] at h
  rcases List.mem_cons.1 he with rfl | he
  ·exact absurd h.1 hn
  ·exact fndV_dir (h.2 e he)
theorem treeR_root {O:List Et} (h:treeR O=true):∃ e∈O,e.p=⟨#[]⟩:=by
 cases O with
 | nil=>cases h
 | cons a r=>
  simp only [treeR,Bool.and_eq_true,decide_eq_true_eq] at h
  exact ⟨a,by simp,h.1⟩
theorem own_right {v:Vd} {m:Md} {b:Bool} (h:ownE v m b=0):rightVB v=true∧v.kind≠0:=by
 unfold ownE at h
 split at h
 ·cases h
 rename_i h1
 split at h
 ·cases h
 split at h
 ·cases h
 rename_i h3
 exact ⟨by simpa using h3,by omega⟩
theorem right_own {v:Vd} (h:rightR v=true) (hz:v≠Vd.zero):ownE v Md.zero false=0∧v.kind≠0:=by
 unfold rightR at h
 rw [decide_eq_false hz,Bool.false_or,Bool.and_eq_true,decide_eq_true_eq] at h
 have hr:=h.2
 have hk:v.kind=1∨v.kind=2∨v.kind=3:=by
  unfold rightVB at hr
  split at hr
  ·exact .inl ‹_›
  split at hr
  ·exact .inr (.inl ‹_›)
  split at hr
  ·exact .inr (.inr ‹_›)
  ·cases hr
 have a1:¬ (v.kind≠1∧v.kind≠2∧v.kind≠3):=by omega
 have a2:¬ (false=true∧v.kind≠1):=by simp
 have a3:¬ rightVB v=false:=by rw [hr];simp
 have b1:rightMB Md.zero.n0 Md.zero.s0=true:=by decide
 have b2:rightMB Md.zero.n1 Md.zero.s1=true:=by decide
 have a4:¬ (v.kind=2∧(rightMB Md.zero.n0 Md.zero.s0=false∨rightMB Md.zero.n1 Md.zero.s1=false)):=fun q=>by
  rcases q.2 with q | q
  ·rw [b1] at q;cases q
  ·rw [b2] at q;cases q
 have a5:¬ (v.kind≠2∧Md.zero≠Md.zero):=fun q=>q.2 rfl
 refine ⟨?_,h.1⟩
 unfold ownE
 rw [if_neg a1,if_neg a2,if_neg a3,if_neg a4,if_neg a5]
theorem Po.one:∀ {l:List Cn} {c d:Cn},Po l→c∈l→d∈l→c.L=d.L→c=d
 | [],c,d,_,hc,_,_=>by cases hc
 | a::l,c,d,h,hc,hd,e=>by
  have hn:∀ x∈l,x.L≠a.L:=fun x hx=>Po.ne h hx
  have ht:Po l:=Po.tail h
  rcases List.mem_cons.1 hc with c1 | c1
  ·rcases List.mem_cons.1 hd with d1 | d1
   ·rw [c1,d1]
   ·rw [c1] at e;exact absurd e.symm (hn d d1)
  ·rcases List.mem_cons.1 hd with d1 | d1
   ·rw [d1] at e;exact absurd e (hn c c1)
   ·exact Po.one ht c1 d1 e
structure Lst (t:T3) (L:List Cd):Prop where
 g:Good t
 sp:∀ c∈L,splitE (tl c.path) 64=0
 lt:L.Pairwise ltP
 po:Po (L.map toN)
 old:∀ c∈L,vcV c.old=vl t (cutN c.path)
 ne:∀ c∈L,vcV c.old≠vcV c.new
theorem Lst.of {t:T3} {L:List Cd} (ht:Good t) (hr:riseB none L=true) (hs:startsB t L=true):Lst t L:=by
 obtain ⟨r1,r2,_⟩:=rise_pair hr
 have hsp:∀ c∈L,splitE (tl c.path) 64=0:=fun c hc=>(r1 c hc).1
 refine ⟨ht,hsp,r2,rise_po r2,fun c hc=>?_,fun c hc q=>(r1 c hc).2 ?_⟩
 ·unfold startsB at hs
  rw [List.all_eq_true] at hs
  have h1:=hs c hc
  rw [decide_eq_true_eq] at h1
  rw [← h1]
  unfold atV vl val
  rw [sub_names (hsp c hc)]
  cases dn t (cutN c.path)<;>rfl
 ·rw [← cvV_vc c.old,← cvV_vc c.new,q]
theorem Lst.mem {t:T3} {L:List Cd} (_h:Lst t L) {c:Cn} (hc:c∈L.map toN):∃ d∈L,toN d=c:=List.mem_map.1 hc
theorem Lst.pc {t:T3} {L:List Cd} (h:Lst t L) {c:Cd} (hc:c∈L):c.path=pth (cutN c.path):=(pth_cut (h.sp c hc)).symm
theorem Lst.gm {t:T3} {L:List Cd} (h:Lst t L) {c:Cd} (hc:c∈L):goodM (cutN c.path):=cut_good (h.sp c hc)
theorem Lst.one {t:T3} {L:List Cd} (h:Lst t L) {c d:Cd} (hc:c∈L) (hd:d∈L) (e:c.path=d.path):toN c=toN d:=
 h.po.one (List.mem_map_of_mem hc) (List.mem_map_of_mem hd) (by show cutN c.path=cutN d.path;rw [e])
theorem kind_nz {v:Ch.Vd} (h:v.kind≠0):vcV v≠DO.vz:=fun e=>h (by have:=congrArg Vd.kind e;exact this)
theorem ap_bind {t:T3} {L:List Cd} (h:Lst t L):apM t L=(clrR (L.map toN) t).bind (layL (L.map toN)):=by
 unfold apM
 rw [dpL_names h.sp]
 cases clrR (L.map toN) t with
 | none=>rfl
 | some u=>exact ldM_names h.sp
theorem ap_yes {t z:T3} {L:List Cd} (h:Lst t L) (hz:Good z) (ha:apM t L=some z):
  (∀ c∈L,rightR (vcV c.new)=true)∧(∀ O,MrgIs (FL t) L O→O=FL z)∧treeR (FL z)=true:=by
 rw [ap_bind h] at ha
 cases e1:clrR (L.map toN) t with
 | none=>rw [e1] at ha;cases ha
 | some t1=>
 rw [e1,Option.bind_some] at ha
 obtain ⟨a1,a2,a3⟩:=clr_val h.g.rises e1
 have hno:∀ c∈L.map toN,c.n≠DO.vz→¬ Go_ (L.map toN) c.L:=fun c hc hn ⟨d,hd,k1,k2⟩=>hn (by rw [← h.po.one hd hc k2];exact k1)
 obtain ⟨b1,b2,b3⟩:=lay_val a1 h.po (fun c hc hn ho=>by
  rw [a3 _ (hno c hc hn)]
  obtain ⟨d,hd,rfl⟩:=h.mem hc
  exact (vl_none h.g).1 (by show vl t (cutN d.path)=_;rw [← h.old d hd];exact ho)) ha
 have v2:∀ c∈L.map toN,c.n=DO.vz→val z c.L=none:=fun c hc hn=>by
  rw [b3 c.L fun d hd hdn e=>hdn (by rw [h.po.one hd hc e];exact hn)]
  exact a2 _ ⟨c,hc,hn,rfl⟩
 have v3:∀ M,(∀ c∈L.map toN,c.L≠M)→val z M=val t M:=fun M hM=>by
  rw [b3 M fun c hc _=>hM c hc]
  exact a3 M fun ⟨c,hc,_,k⟩=>hM c hc k
 have hR:∀ c∈L,rightR (vcV c.new)=true:=fun c hc=>by
  unfold rightR
  by_cases hn:vcV c.new=Vd.zero
  ·rw [decide_eq_true hn];rfl
  ·have hv:=b2 (toN c) (List.mem_map_of_mem hc) hn
   obtain ⟨k1,k2⟩:=own_right (hz.okAt _ _ hv).2.2
   have k1':rightVB (vcV c.new)=true:=k1
   have k2':(vcV c.new).kind≠0:=k2
   rw [decide_eq_false hn,k1',decide_eq_true k2'];rfl
 have hp:treeR (FL z)=true:=by
  have hsrt:=FL_srt hz
  unfold FL at hsrt ⊢
  rw [treeR,decide_eq_true rfl,Bool.true_and,List.all_eq_true]
  intro x hx
  rw [decide_eq_true_eq]
  obtain ⟨M,e2,e3⟩:=(FL_mem hz (e:=x)).1 (List.mem_cons_of_mem _ hx)
  have hg:=(val_good hz e3).1
  have hM:M≠[]:=fun q=>by
   have:=(List.pairwise_cons.1 hsrt).1 x hx
   exact ltE_ne this (by rw [e2,q];rfl)
  obtain ⟨N,n,rfl⟩:∃ N n,M=N++[n]:=⟨M.dropLast,M.getLast hM,(List.dropLast_concat_getLast hM).symm⟩
  obtain ⟨v,m,e4,e5⟩:=hz.par N n (by rw [e3];simp)
  have hm:=(FL_mem hz (e:=⟨pth N,v,m⟩)).2 ⟨N,rfl,e4⟩
  have:=fndV_mem hsrt hm
  rw [e2,up_pth hg,List.dropLast_concat,this]
  exact e5
 refine ⟨hR,fun O hO=>srt_ext hO.2.1 (FL_srt hz) fun e=>?_,hp⟩
 rw [hO.2.2 e,FL_mem hz]
 constructor
 ·rintro (⟨h1,h2⟩ | ⟨c,hc,hk,rfl⟩)
  ·obtain ⟨M,e2,e3⟩:=(FL_mem h.g).1 h1
   refine ⟨M,e2,?_⟩
   rw [v3 M fun c hc q=>?_]
   ·exact e3
   ·obtain ⟨d,hd,rfl⟩:=h.mem hc
    exact h2 d hd (by rw [h.pc hd,e2];exact congrArg pth q)
  ·exact ⟨cutN c.path,h.pc hc,b2 (toN c) (List.mem_map_of_mem hc) (kind_nz hk)⟩
 ·rintro ⟨M,e2,e3⟩
  have hgz:=(val_good hz e3).1
  by_cases hex:∃ c∈L,cutN c.path=M
  ·obtain ⟨c,hc,rfl⟩:=hex
   by_cases hn:vcV c.new=DO.vz
   ·have:=v2 (toN c) (List.mem_map_of_mem hc) hn
    rw [show val z (toN c).L=val z (cutN c.path) from rfl,e3] at this
    cases this
   ·have:=b2 (toN c) (List.mem_map_of_mem hc) hn
    rw [show val z (toN c).L=val z (cutN c.path) from rfl,e3] at this
    injection this with this
    injection this with q1 q2
    refine .inr ⟨c,hc,(right_own (hR c hc) hn).2,?_⟩
    cases e
    simp only at e2 q1 q2
    rw [e2,q1,q2,← h.pc hc]
    rfl
  ·have e4:val t M=some (e.v,e.m):=by
    rw [← v3 M fun c hc q=>?_]
    ·exact e3
    ·obtain ⟨d,hd,rfl⟩:=h.mem hc
     exact hex ⟨d,hd,q⟩
   refine .inl ⟨(FL_mem h.g).2 ⟨M,e2,e4⟩,fun c hc q=>hex ⟨c,hc,?_⟩⟩
   rw [q,e2,cut_pth hgz]
theorem ap_no_none {t:T3} {L:List Cd} {O:List Et} (h:Lst t L) (hO:MrgIs (FL t) L O) (hT:treeR O=true):apM t L≠none:=by
 rw [ap_bind h]
 have hR:=hO.1
 have hgone:∀ d∈L,vcV d.new=DO.vz→∀ e∈O,e.p≠d.path:=fun d hd hn e he q=>by
  rcases (hO.2.2 e).1 he with ⟨_,h2⟩ | ⟨c,hc,hk,rfl⟩
  ·exact h2 d hd q.symm
  ·have:toN c=toN d:=h.one hc hd q
   exact kind_nz hk (by have:=congrArg Cn.n this;exact this.trans hn)
 have hin:∀ (M:List ByteArray) (x:Vd × Md),val t M=some x→¬ Go_ (L.map toN) M→∃ e∈O,e.p=pth M:=fun M x hx hg=>by
  by_cases hex:∃ c∈L,cutN c.path=M
  ·obtain ⟨c,hc,rfl⟩:=hex
   have hn:vcV c.new≠DO.vz:=fun q=>hg ⟨toN c,List.mem_map_of_mem hc,q,rfl⟩
   exact ⟨neE c,(hO.2.2 _).2 (.inr ⟨c,hc,(right_own (hR c hc) hn).2,rfl⟩),h.pc hc⟩
  ·refine ⟨⟨pth M,x.1,x.2⟩,(hO.2.2 _).2 (.inl ⟨(FL_mem h.g).2 ⟨M,rfl,hx⟩,fun c hc q=>hex ⟨c,hc,?_⟩⟩),rfl⟩
   rw [q]
   exact cut_pth (val_good h.g hx).1
 have hroot:∀ (M:List ByteArray) (n:ByteArray),goodM (M++[n])→(∃ e∈O,e.p=pth (M++[n]))→∃ d∈O,d.p=pth M∧d.v.kind=1:=fun M n hg ⟨e,he,q⟩=>by
  obtain ⟨d,hd,k1,k2⟩:=treeR_up hO.2.1 hT he (fun q2=>by rw [q] at q2;have:=pth_nil hg q2;simp at this)
  exact ⟨d,hd,by rw [k1,q,up_pth hg,List.dropLast_concat],k2⟩
 obtain ⟨t1,e1⟩:∃ t1,clrR (L.map toN) t=some t1:=by
  refine clr_ok h.g.rises h.g.par h.po fun c hc hn=>?_
  obtain ⟨d,hd,rfl⟩:=h.mem hc
  refine ⟨fun q=>?_,fun q=>?_,fun n hv=>Classical.byContradiction fun hg=>?_⟩
  ·obtain ⟨e,he,k⟩:=treeR_root hT
   refine hgone d hd hn e he ?_
   rw [k,h.pc hd,show cutN d.path=[] from q]
   rfl
  ·refine h.ne d hd ?_
   rw [h.old d hd,show vcV d.new=DO.vz from hn]
   exact (vl_none h.g).2 q
  ·cases hx:val t ((toN d).L++[n]) with
   | none=>exact hv hx
   | some x=>
    obtain ⟨e,he,k,_⟩:=hroot _ n (val_good h.g hx).1 (hin _ x hx hg)
    exact hgone d hd hn e he (by rw [k,h.pc hd];rfl)
 obtain ⟨a1,a2,a3⟩:=clr_val h.g.rises e1
 have hno:∀ c∈L.map toN,c.n≠DO.vz→¬ Go_ (L.map toN) c.L:=fun c hc hn ⟨d,hd,k1,k2⟩=>hn (by rw [← h.po.one hd hc k2];exact k1)
 obtain ⟨z,e2⟩:∃ z,layL (L.map toN) t1=some z:=by
  refine lay_ok a1 h.po (fun c hc hn=>?_) (fun c hc hn=>?_) (fun c hc hn=>?_) fun c hc hn hk n=>?_
  ·obtain ⟨d,hd,rfl⟩:=h.mem hc
   rw [a3 _ (hno _ hc hn)]
   have ho:(toN d).o=vl t (toN d).L:=h.old d hd
   exact ⟨fun q=>(vl_none h.g).1 (by rw [← ho];exact q),fun q k=>q (by rw [ho];exact (vl_none h.g).2 k)⟩
  ·obtain ⟨d,hd,rfl⟩:=h.mem hc
   exact check_own.2 (right_own (hR d hd) hn).1
  ·obtain ⟨d,hd,rfl⟩:=h.mem hc
   by_cases hL:(toN d).L=[]
   ·exact .inl hL
   right
   obtain ⟨N,n,eN⟩:∃ N n,(toN d).L=N++[n]:=⟨(toN d).L.dropLast,(toN d).L.getLast hL,(List.dropLast_concat_getLast hL).symm⟩
   have hg:goodM (N++[n]):=by rw [← eN];exact h.gm hd
   obtain ⟨e,he,k1,k2⟩:=hroot N n hg ⟨neE d,(hO.2.2 _).2 (.inr ⟨d,hd,(right_own (hR d hd) hn).2,rfl⟩),by
    show d.path=_
    rw [← eN];exact h.pc hd⟩
   rw [eN,List.dropLast_concat]
   have hgN:goodM N:=fun x hx=>hg x (List.mem_append_left _ hx)
   rcases (hO.2.2 e).1 he with ⟨m1,m2⟩ | ⟨c',hc',hk',rfl⟩
   ·left
    obtain ⟨M,f1,f2⟩:=(FL_mem h.g).1 m1
    have hMN:M=N:=by
     have:=cut_pth (val_good h.g f2).1
     rw [← f1,k1,cut_pth hgN] at this
     exact this.symm
    subst hMN
    have hnc:∀ d'∈L.map toN,d'.L≠M:=fun d' hd' q=>by
     obtain ⟨d2,hd2,rfl⟩:=h.mem hd'
     exact m2 d2 hd2 (by rw [h.pc hd2,f1];exact congrArg pth q)
    refine ⟨e.v,e.m,?_,k2,fun d' hd' _=>hnc d' hd'⟩
    rw [a3 M fun ⟨d',hd',_,q⟩=>hnc d' hd' q]
    exact f2
   ·right
    refine ⟨toN c',List.mem_map_of_mem hc',kind_nz hk',?_,k2⟩
    show cutN c'.path=N
    rw [show c'.path=pth N from k1,cut_pth hgN]
  ·obtain ⟨d,hd,rfl⟩:=h.mem hc
   cases hx:val t1 ((toN d).L++[n]) with
   | none=>rfl
   | some x=>
    exfalso
    have hg:¬ Go_ (L.map toN) ((toN d).L++[n]):=fun q=>by rw [a2 _ q] at hx;cases hx
    rw [a3 _ hg] at hx
    obtain ⟨e,he,k1,k2⟩:=hroot _ n (val_good h.g hx).1 (hin _ x hx hg)
    have hd2:neE d∈O:=(hO.2.2 _).2 (.inr ⟨d,hd,(right_own (hR d hd) hn).2,rfl⟩)
    have f1:=fndV_mem hO.2.1 he
    have f2:=fndV_mem hO.2.1 hd2
    rw [k1,show pth (toN d).L=(neE d).p from (h.pc hd).symm,f2] at f1
    exact hk (by rw [show (toN d).n=(neE d).v from rfl,f1];exact k2)
 rw [e1,Option.bind_some,e2]
 simp
end Go.Proofs.YthfcanpkhjgomaaGreat
