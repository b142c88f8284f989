import Derived.Test.YthfcanpkhjgomaaGreatNodeI
set_option maxRecDepth 100000
set_option maxHeartbeats 4000000
namespace Go.Proofs.YthfcanpkhjgomaaGreat
open Go.RowKit Go.Shelf
attribute [local go_sem] Oper.semAt_some
def NodeOk (k:K):Prop:=∀ (p:Nat) (v:Vd) (m:Md) (w:World),AtT w p v m k→k.flat.size≤100000→
  Calls Tryz.prog 16 #[.pointer (some ⟨p,0,none⟩)] w fun e w'=>∃ c',e=.returned (.agg c')∧HasNP w' (NewC w w') c' ⟨#[]⟩ v m k.flat∧G w w'
theorem wp_region_W {ops:Array Oper} {Q:Exit→Act→World→Prop} {n id:Nat} {a:Act} {w:World} (h:∀ ops' Q',ops'=ops→Q'=Q→wpAnyIn Fence.wide n Tryz.prog .any ops' Q' ops.size (Array.replicate ops.size false) a w.drew):(Code.region id ops true).wpIn Fence.wide n Tryz.prog Q a w:=
 wpIn_region_any (by kernel_rfl) (h ops Q rfl rfl)
theorem step_worldIn {F:Fence} {m:Nat} {P:Program} {c:Code} {Q:Exit→Act→World→Prop} {a:Act} {W:World} (I:World→Prop) (h:I W) (k:∀ wr,I wr→c.wpIn F m P Q a wr):c.wpIn F m P Q a W:=k W h
theorem jf {o:Oper} {a:Act} (ho:o.op=.alloc 30) (w:World) (b:Nat) (hb:w.heap.size=b):(execOp a.eval o).run Tryz.prog w=.ok (.value (.pointer (some ⟨b,0,none⟩))) (w.alloc (.cells z30 30)):=by
 subst hb;exact exec_alloc30 ho w
def RetM (fn:Func) (R:Ending→World→Prop):Exit→Act→World→Prop
 | .ret,a,w=>LeavesInM Fence.wide 3 Tryz.prog fn a.tmps R a.defers .returning w
 | _,_,_=>False
theorem RetM.post {fn:Func} {R:Ending→World→Prop}:∀ e a w,RetM fn R e a w→bodyPostM Fence.wide 3 Tryz.prog fn R e a w
 | .ret,_,_,h=>h
 | .normal,_,_,h | .panic _,_,_,h | .outgrown,_,_,h | .exit _,_,_,h | .goto _,_,_,h=>h.elim
theorem treeNode_step (k:K) (ih:∀ k':K,k'.flat.size<k.flat.size→NodeOk k'):NodeOk k:=by
 intro p v m w hT hsz
 obtain ⟨pk,hT1,hT2⟩:=hT
 obtain ⟨X,hX⟩:∃ X,X=(vx v).toArray:=⟨_,rfl⟩
 obtain ⟨M,hM⟩:∃ M,M=(mx m).toArray:=⟨_,rfl⟩
 obtain ⟨CN,hCN⟩:∃ CN,CN=nc ⟨#[]⟩ v m (.slice none 0 0):=⟨_,rfl⟩
 have HX:Hid (X.size=35∧M.size=4):=⟨by rw [hX];simp [jQ],by rw [hM];simp [ji]⟩
 have HCX:Hid (X=(vx v).toArray∧M=(mx m).toArray):=⟨hX,hM⟩
 have HCN:Hid (CN=nc ⟨#[]⟩ v m (.slice none 0 0)):=hCN
 have HLX0:Hid (Lies w p 0 X∧Lies w p 35 M):=by
  have h1:=hT1.part 0 35
  have h2:=hT1.part 35 39
  rw [tc_val,← hX] at h1
  rw [tc_marks,← hM] at h2
  rw [Nat.zero_add] at h2
  exact ⟨h1,h2⟩
 have hpk0:=jG hT1 39 pk (qK ..)
 have HT:=hid (⟨⟨pk,hT1,hT2⟩,hT2,hsz⟩:AtT w p v m k∧At w k pk∧k.flat.size≤100000)
 have HIH:=hid ih
 obtain ⟨B,hB⟩:∃ B,w.heap.size=B:=⟨_,rfl⟩
 clear hX hM hCN hT1 hT2 hsz ih
 refine (callsIn_wide (n:=3)).1 ?_
 refine callsIn_of_wp_marks Tryz.func16 rfl trivial (Go.wpIn_mono (Q:=RetM Tryz.f16 _) ?_ RetM.post) rfl
 simp only [Tryz.ntmps16,List.size_toArray,List.length_cons,List.length_nil,Nat.reduceAdd,Nat.reduceSub,Array.replicate_succ,Array.replicate_zero,List.push_toArray,List.append_toArray,List.nil_append,List.cons_append]
 gi_wp2
 refine step_worldIn (fun W0=>G w W0∧Var W0 w.heap.size z30∧W0.heap.size=w.heap.size+1) ⟨G.alloc w (.cells z30 30),Var.new w z30,by simp⟩ fun W0 HD=>?_
 rw [hB] at HD
 refine wp_region_W fun ops Q hops hQ=>?_
 have HD1:Hid (G w W0.drew∧Var W0.drew B z30):=⟨HD.1.trans (G.drew W0),HD.2.1.grow (G.drew W0)⟩
 have HB1:Hid (W0.drew.heap.size=B+1):=HD.2.2
 have HB:Hid (w.heap.size=B):=hB
 clear HD hB
 generalize W0.drew=W1 at *
 have HLX:Hid (∀ W',G W1 W'→Lies W' p 0 X∧Lies W' p 35 M):=fun W' hg=>⟨(HD1.out.1.trans hg).lies HLX0.out.1,(HD1.out.1.trans hg).lies HLX0.out.2⟩
 have afin:∀ Wz,Hid (G W1 Wz∧Var Wz (B+1) CN∧Wz.heap.size=B+1+1)→wpAnyIn Fence.wide 3 Tryz.prog .any ops Q 0 #[true,true,true,true,true,true,true,true,true,true,true] { tmps:=#[.pointer (some ⟨p,0,none⟩),undef,.pointer (some ⟨B,0,none⟩),.pointer (some ⟨B+1,0,none⟩),undef,undef,undef,.pointer (some ⟨p,0,none⟩),.pointer (some ⟨p,0,none⟩),.pointer (some ⟨p,0,none⟩),.agg X,.pointer (some ⟨p,0,none⟩),.pointer (some ⟨p,0,none⟩),.pointer (some ⟨p,35,none⟩),.agg M,.agg CN,undef,undef,undef,undef,undef,undef,undef,undef,undef,undef,undef,undef,undef,undef,undef,undef,undef,undef,undef,undef,undef,undef,undef,undef,undef,undef,undef,undef,undef,undef,undef,undef],defers:=[] } Wz:=by
  intro Wz HR
  subst hops
  refine wpAnyIn_done (by kernel_rfl) ?_ _
  subst hQ
  have hpk:Wz.cell? ⟨p,39,none⟩=some pk:=(HD1.out.1.trans HR.out.1).cell hpk0
  have hV2:Hid (Var Wz B z30∧CN.size=41∧CN.all (·.oneCell')=true):=⟨HD1.out.2.grow HR.out.1,by rw [HCN.out];exact jZ ..,by rw [HCN.out];exact nc_one _ _ _ _ rfl⟩
  obtain ⟨ak,rfl⟩:=HT.out.2.1.form
  cases ak with
  | none=>
   gi_wp2_with (first
    | ((with_reducible refine jT (.agg CN) Wz ?_ ?_ ?_ ?_ ?_);rfl;exact jH _ rfl (B+1) 0 rfl CN hV2.out.2.1 HR.out.2.1.lies;(intro c h;cases h);exact fun _ _=>trivial)
    | ((with_reducible refine wpListIn_skipW (Wz.setRow B CN) ?_ ?_ ?_ ?_ ?_);rfl;exact jX _ _ rfl B CN z30 rfl rfl _ hV2.out.1 hV2.out.2.1 jU hV2.out.2.2;(intro c h;cases h);exact fun _ _=>trivial))
   have hk:k=.nil:=by
    have h:=HT.out.2.1
    cases k with
    | nil=>rfl
    | node=>cases h.1
   have hg2:G w (Wz.setRow B CN):=by
    have h:=HD1.out.1.trans HR.out.1
    refine Below.trans (B:=w.heap.size) h ⟨rfl,rfl,rfl,by simp,fun b hb=>setRow_other _ B b _ ?_⟩
    have:=HB.out
    omega
   refine ⟨_,results_cell_row (P:=Tryz.prog) (p:=2) (ty:=30) rfl _ _ B 30 CN (0,0) _ rfl hV2.out.1.set under30 rfl (by rw [size30,hV2.out.2.1]),CN,rfl,⟨.slice none 0 0,HCN.out,?_⟩,hg2⟩
   rw [hk]
   exact ⟨none,0,rfl,Nat.le_refl _,.inl rfl⟩
  | some q=>
   have hq0:=HT.out.2.1
   cases k with
   | nil=>cases hq0
   | node q1 p1 nm1 v1 m1 kk1 ah1 be1=>
   obtain ⟨hq1,pk1,pa1,pb1,⟨hl1,_⟩,_⟩:=hq0
   obtain rfl:q=⟨q1,0,none⟩:=by injection hq1 with e;injection e
   generalize hkk:K.node q1 p1 nm1 v1 m1 kk1 ah1 be1=k at *
   have hG0:G w Wz:=HD1.out.1.trans HR.out.1
   have hn4:=hG0.cell (jG hl1 4 (.int .i64 k.flat.len) rfl)
   have HN:=hid (by have:=HT.out.2.2;have:=k.flat.len_le_size;omega:k.flat.len≤100000)
   generalize hNe:k.flat.len=N at *
   obtain ⟨i0,hi,hz0,hz1,hz2⟩:=info_parts info30
   have hszz:Wz.heap.size=B+2:=HR.out.2.2
   clear hl1 hq1 hG0
   gi_wp2_with (first
    | (gi_at_call 55;refine (callsIn_wide.2 (childrenF_any p _)).mono ?_;rintro e w' ⟨rfl,rfl⟩)
    | (refine ⟨trivial,?_⟩;gi_at_call 55;refine (callsIn_wide.2 (childrenF_any p _)).mono ?_;rintro e w' ⟨rfl,rfl⟩)
    | ((with_reducible refine wpListIn_make_own Wz ?_ (Operand.const (.int .i64 0)) (Operand.tmp 28) 28 ?_ (B+2) 30 i0 (.agg z30) 41 Tryz.underlying28 hi hz0 hz1 .i64 .i64 (N:Int) N ?_ ?_ ?_ ?_ ?_ ?_ ?_);rfl;rfl;rfl;rfl;rfl;(rw [hz2];have:=HN.out;omega);(have:=HN.out;unfold maxLen;omega);(rw [hszz];exact Nat.le_refl _);intro W4 how4 hgr4;have HW4:Hid (W4.ownsRow (B+2) 30 41 (.slice (some ⟨B+2,0,none⟩) 0 N) 0 []∧Wz.grownBy W4 none):=⟨by rw [hszz] at how4;exact how4,hgr4⟩;have hV4:Hid (Var W4 (B+1) CN):=(hgr4.block (B+1) (by omega) (by simp)).trans HR.out.2.1;have hf4:W4.frozen? ⟨B+1,40,none⟩=false:=var_frozen hV4.out 40;obtain ⟨u4,hc4⟩:=cell_of_var hV4.out 40 (by rw [hV2.out.2.1];omega);clear how4 hgr4))
   have hNI:=NI.start (p:=p) HB.out (HD1.out.1.trans HR.out.1) hV2.out.1 (by rw [← HCN.out];exact HR.out.2.1) HW4.out.1 HW4.out.2
   have hlt4:=(World.ownsRow.lt HW4.out.1 (B+2) rfl).2
   refine step_worldIn (fun W5=>NI w B v m .nil 0 W5∧W5.cell? ⟨W4.heap.size,0,none⟩=some (.pointer (some ⟨p,0,none⟩))∧W4.heap.size<W5.heap.size) ⟨hNI,by
    rw [show W4.heap.size=(W4.setCell ⟨B+1,40,none⟩ (.slice (some ⟨B+2,0,none⟩) 0 N)).heap.size by simp]
    exact jG (jh _ _ _) 0 _ rfl,by simp⟩ fun W5 H5=>?_
   obtain ⟨hNI5,hc5,hs5⟩:=H5
   have hle5:B≤W5.heap.size:=by omega
   clear hNI HW4 hV4 hf4 hc4
   generalize W4.heap.size=Bt at *
   have hG5:G w W5:=by obtain ⟨_,_,_,h,_⟩:=hNI5;exact h
   refine wpIn_rangeFunc_ownF rfl (by omega) (gf:=89) (lb:=#[.pointer (some ⟨Bt,0,none⟩)]) rfl trivial (enters_of Tryz.func89 (by kernel_rfl) rfl)
    (children_stops 2 w k.flat.size Bt p v m k W5 hs5 hc5 HT.out.1 (Nat.le_refl _) hG5)
    (fun h k=>h.trans k) (belowK_b (by have:=HB.out;omega)) (Below.refl _ _) (fun _=>rfl)
    (fun pre W=>NI w B v m (kidsF (kids pre)) pre.length W) (fun _ _ _=>False) (NI.own HB.out hle5) (fun _ _ _ _ _ hs _ _=>hs) hNI5
    (fun x=>{ tmps:=#[.pointer (some ⟨p,0,none⟩),undef,.pointer (some ⟨B,0,none⟩),.pointer (some ⟨B+1,0,none⟩),.string x.1.nm,.pointer (some ⟨x.1.p,0,none⟩),undef,.pointer (some ⟨p,0,none⟩),.pointer (some ⟨p,0,none⟩),.pointer (some ⟨p,0,none⟩),.agg X,.pointer (some ⟨p,0,none⟩),.pointer (some ⟨p,0,none⟩),.pointer (some ⟨p,35,none⟩),.agg M,.agg CN,.pointer (some ⟨p,0,none⟩),.pointer (some ⟨p,0,none⟩),.pointer (some ⟨p,39,none⟩),.pointer (some ⟨q1,0,none⟩),.bool false,undef,.pointer (some ⟨p,0,none⟩),.pointer (some ⟨p,0,none⟩),.pointer (some ⟨p,39,none⟩),.pointer (some ⟨q1,0,none⟩),.pointer (some ⟨q1,0,none⟩),.pointer (some ⟨q1,4,none⟩),.int .i64 N,.slice (some ⟨B+2,0,none⟩) 0 N,.pointer (some ⟨B+1,40,none⟩),.pointer (some ⟨p,0,none⟩),.func (.func 89) #[] #[.pointer (some ⟨Bt,0,none⟩)],.string x.1.nm,.pointer (some ⟨x.1.p,0,none⟩),undef,undef,undef,undef,undef,undef,undef,undef,undef,undef,undef,undef,undef],defers:=[] }) ?assign ?body ?done ?stop
   case assign=>
    intro l x W K hK
    gi_wp2
    exact hK
   case stop=>
    rintro D c pre W _ _ h _
    exact h.elim
   case body=>
    rintro l pre x W ⟨u,xs,T,h1,h2,h3,h4,h6,h7⟩ hlen
    have CC:=HIH.out x.1.k x.2.2 x.1.p x.1.v x.1.m W (x.2.1.grow h1) (by have:=x.2.2;have:=HT.out.2.2;omega)
    have HI:=hid (⟨h1,h2,h3,h4,h6,h7⟩:G w W∧Var W B z30∧Var W (B+1) (nc ⟨#[]⟩ v m u)∧W.ownsRow (B+2) 30 41 u pre.length xs∧RCells W T (kidsF (kids pre)) xs∧∀ b,T b→B+2≤b∧(∃ o:Obj,W.heap[b]?=some o∧o.isCells=true)∧some b≠u.ownBlock)
    obtain ⟨n0,hn0⟩:∃ n0,pre.length=n0:=⟨_,rfl⟩
    rw [hn0] at HI h4
    obtain ⟨ao,uc,rfl⟩:=owns_form h4
    have HN0:Hid (pre.length=n0∧n0≤100000):=⟨hn0,by rw [K.items_len] at hlen;have:=HN.out;omega⟩
    have hnl:(n0:Int)<((n0+1:Nat):Int):=by omega
    clear hn0 hlen h1 h2 h3 h4 h6 h7 hNI5 hc5 hpk hpk0 hn4
    gi_wp2_with (first
     | (refine ⟨trivial,?_⟩;gi_at_call 16;refine (CallsIn.inRound l (callsIn_wide.2 CC)).mono ?_;rintro e W2 ⟨c2,rfl,hn2,hg2⟩;obtain ⟨D,hD⟩:∃ D,W2.heap.size=D:=⟨_,rfl⟩;have HN2:=hid (⟨hn2,hg2⟩:HasNP W2 (NewC W W2) c2 ⟨#[]⟩ x.1.v x.1.m x.1.k.flat∧G W W2);have HZ2:Hid (c2.size=41∧c2.all (·.oneCell')=true):=by { obtain ⟨kv2,rfl,hk2⟩:=hn2;obtain ⟨a2,cap2,rfl,_⟩:=hk2;exact ⟨jZ ..,nc_one _ _ _ _ rfl⟩ };clear CC hn2 hg2)
     | ((with_reducible refine jT (.pointer (some ⟨D,0,none⟩)) (W2.alloc (.cells z30 30)) ?_ ?_ ?_ ?_ ?_);rfl;exact jf rfl W2 D hD;(intro c h;cases h);exact fun _ _=>trivial)
     | ((with_reducible refine wpListIn_skipW ((W2.alloc (.cells z30 30)).setRow D c2) ?_ ?_ ?_ ?_ ?_);rfl;exact jX _ _ rfl D c2 z30 rfl rfl _ (by rw [← hD];exact Var.new W2 z30) HZ2.out.1 jU HZ2.out.2;(intro c h;cases h);exact fun _ _=>trivial;have hnv:=new_var W2 c2;rw [hD] at hnv;generalize (W2.alloc (.cells z30 30)).setRow D c2=V at hnv ⊢;have HNV:=hid hnv;have hfz:V.frozen? ⟨D,0,none⟩=false:=var_frozen hnv.2.1 0;obtain ⟨u0,hc0⟩:=cell_of_var hnv.2.1 0 (by rw [HZ2.out.1];omega);clear hnv))
    obtain ⟨kv,hWd⟩:=round_world hD HN2.out.1 HN2.out.2 HNV.out x.1.nm
    refine wp_region_R fun ops Q hops hQ=>?_
    generalize (V.setCell ⟨D,0,none⟩ (.string x.1.nm)).drew=Wd at *
    obtain ⟨cn,hcn⟩:∃ cn,cn=nc x.1.nm x.1.v x.1.m kv:=⟨_,rfl⟩
    rw [← hcn] at hWd
    have HCN2:Hid (cn=nc x.1.nm x.1.v x.1.m kv):=hcn
    have HWd:=hid hWd
    have HWS:Hid (Wd.heap.size=D+1):=hWd.2.2.2
    have HCS:Hid (cn.size=41∧cn.all (·.oneCell')=true):=by
     obtain ⟨a2,cap2,hkv,_⟩:=hWd.2.2.1
     rw [hcn,hkv]
     exact ⟨jZ ..,nc_one _ _ _ _ rfl⟩
    have HVD:Hid (∀ W',G Wd W'→Var W' D cn):=fun W' h=>hWd.2.1.grow h
    have HVB:Hid (∀ W',G Wd W'→Var W' (B+1) (nc ⟨#[]⟩ v m (.slice ao n0 uc))):=fun W' h=>(HI.out.2.2.1.grow hWd.1).grow h
    have HUC:Hid (∀ W',G Wd W'→W'.cell? ⟨B+1,40,none⟩=some (.slice ao n0 uc)):=fun W' h=>jG (HVB.out W' h).lies 40 _ (qB ..)
    clear hWd hcn hfz hc0
    have cph:∀ (g cap:Nat) (Wa:World),Wa.ownsRow (B+2) 30 41 (.slice (some ⟨g,0,none⟩) (n0+1) cap) (n0+1) (xs++z30.toList)→(Wd.alloc (.cells z30 30)).grownBy Wa (Value.slice ao n0 uc).ownBlock→((Value.slice ao n0 uc).ownBlock=some g∨g=(Wd.alloc (.cells z30 30)).heap.size)→
      wpAnyIn (Fence.wide.inRound l) (3-1-1) Tryz.prog .any ops Q 4 #[true,true,true,true,true,true,false,false,false,false] { tmps:=#[.pointer (some ⟨p,0,none⟩),undef,.pointer (some ⟨B,0,none⟩),.pointer (some ⟨B+1,0,none⟩),.string x.1.nm,.pointer (some ⟨x.1.p,0,none⟩),.pointer (some ⟨D,0,none⟩),.pointer (some ⟨p,0,none⟩),.pointer (some ⟨p,0,none⟩),.pointer (some ⟨p,0,none⟩),.agg X,.pointer (some ⟨p,0,none⟩),.pointer (some ⟨p,0,none⟩),.pointer (some ⟨p,35,none⟩),.agg M,.agg CN,.pointer (some ⟨p,0,none⟩),.pointer (some ⟨p,0,none⟩),.pointer (some ⟨p,39,none⟩),.pointer (some ⟨q1,0,none⟩),.bool false,undef,.pointer (some ⟨p,0,none⟩),.pointer (some ⟨p,0,none⟩),.pointer (some ⟨p,39,none⟩),.pointer (some ⟨q1,0,none⟩),.pointer (some ⟨q1,0,none⟩),.pointer (some ⟨q1,4,none⟩),.int .i64 N,.slice (some ⟨B+2,0,none⟩) 0 N,.pointer (some ⟨B+1,40,none⟩),.pointer (some ⟨p,0,none⟩),.func (.func 89) #[] #[.pointer (some ⟨Bt,0,none⟩)],.string x.1.nm,.pointer (some ⟨x.1.p,0,none⟩),.pointer (some ⟨x.1.p,0,none⟩),.agg c2,.string x.1.nm,.pointer (some ⟨D,0,none⟩),.pointer (some ⟨B+1,40,none⟩),.slice ao n0 uc,.agg cn,.int .i64 n0,.slice (some ⟨D+1,0,none⟩) 1 1,.slice (some ⟨g,0,none⟩) (n0+1) cap,undef,undef,undef],defers:=[] } Wa:=by
     intro g cap Wa how hgr hat
     have hxl:xs.length=n0*41:=HI.out.2.2.2.1.1
     have hgr3:Wd.grownBy Wa (Value.slice ao n0 uc).ownBlock:=(World.grownBy_alloc Wd (.cells z30 30) _).trans hgr
     have hat3:(Value.slice ao n0 uc).ownBlock=some g∨Wd.heap.size≤g:=hat.imp id fun e=>by rw [e];simp
     have hgB:B+2≤g:=(World.ownsRow.lt how g rfl).1
     have hB1:=(HVB.out Wd (G.refl _)).lt
     have hVa:Var Wa (B+1) (nc ⟨#[]⟩ v m (.slice ao n0 uc)):=(hgr3.block (B+1) hB1 (fun e=>by have:=(World.ownsRow.lt HI.out.2.2.2.1 (B+1) e.symm).1;omega)).trans (HVB.out Wd (G.refl _))
     have hLa:=left_a how hxl hVa hgB HCS.out.1
     have hLb:=left_b how hxl hVa hgB HCS.out.1
     have HTH:Hid (Wa.there g (n0*41) 41∧(Wa.setCell ⟨B+1,40,none⟩ (.slice (some ⟨g,0,none⟩) (n0+1) cap)).there g (n0*41) 41):=⟨owns_there how _ _ (by simp [jU,hxl]),owns_there (owns_other how (Below.heap_setCell _ _ _ _ (by show g≠B+1;omega))) _ _ (by simp [jU,hxl])⟩
     have hVc:Var (Wa.setCells g (n0*41) cn.toList) (B+1) (nc ⟨#[]⟩ v m (.slice ao n0 uc)):=(jt g _ _ _ _ (by omega)).trans hVa
     have HC9:Hid ((Wa.cell? ⟨B+1,40,none⟩=some (.slice ao n0 uc)∧Wa.frozen? ⟨B+1,40,none⟩=false)∧((Wa.setCells g (n0*41) cn.toList).cell? ⟨B+1,40,none⟩=some (.slice ao n0 uc)∧(Wa.setCells g (n0*41) cn.toList).frozen? ⟨B+1,40,none⟩=false)):=⟨⟨jG hVa.lies 40 _ (qB ..),var_frozen hVa 40⟩,⟨jG hVc.lies 40 _ (qB ..),var_frozen hVc 40⟩⟩
     have cfin:∀ Wz,Left Wa Wz B g n0 v m (.slice (some ⟨g,0,none⟩) (n0+1) cap) (xs++cn.toList)→wpAnyIn (Fence.wide.inRound l) (3-1-1) Tryz.prog .any ops Q 0 #[true,true,true,true,true,true,true,true,true,true] { tmps:=#[.pointer (some ⟨p,0,none⟩),undef,.pointer (some ⟨B,0,none⟩),.pointer (some ⟨B+1,0,none⟩),.string x.1.nm,.pointer (some ⟨x.1.p,0,none⟩),.pointer (some ⟨D,0,none⟩),.pointer (some ⟨p,0,none⟩),.pointer (some ⟨p,0,none⟩),.pointer (some ⟨p,0,none⟩),.agg X,.pointer (some ⟨p,0,none⟩),.pointer (some ⟨p,0,none⟩),.pointer (some ⟨p,35,none⟩),.agg M,.agg CN,.pointer (some ⟨p,0,none⟩),.pointer (some ⟨p,0,none⟩),.pointer (some ⟨p,39,none⟩),.pointer (some ⟨q1,0,none⟩),.bool false,undef,.pointer (some ⟨p,0,none⟩),.pointer (some ⟨p,0,none⟩),.pointer (some ⟨p,39,none⟩),.pointer (some ⟨q1,0,none⟩),.pointer (some ⟨q1,0,none⟩),.pointer (some ⟨q1,4,none⟩),.int .i64 N,.slice (some ⟨B+2,0,none⟩) 0 N,.pointer (some ⟨B+1,40,none⟩),.pointer (some ⟨p,0,none⟩),.func (.func 89) #[] #[.pointer (some ⟨Bt,0,none⟩)],.string x.1.nm,.pointer (some ⟨x.1.p,0,none⟩),.pointer (some ⟨x.1.p,0,none⟩),.agg c2,.string x.1.nm,.pointer (some ⟨D,0,none⟩),.pointer (some ⟨B+1,40,none⟩),.slice ao n0 uc,.agg cn,.int .i64 n0,.slice (some ⟨D+1,0,none⟩) 1 1,.slice (some ⟨g,0,none⟩) (n0+1) cap,.pointer (some ⟨g,n0*41,none⟩),.pointer (some ⟨B+1,40,none⟩),undef],defers:=[] } Wz:=by
      intro Wz hL
      rw [HCN2.out] at hL
      obtain ⟨r1,r2,r3⟩:=NI.step HB.out HI.out.1 HI.out.2.1 HI.out.2.2.1 HI.out.2.2.2.1 HI.out.2.2.2.2.1 HI.out.2.2.2.2.2 HWd.out.1 HWd.out.2.2.1 hgr3 hat3 hL
      subst hops
      refine wpAnyIn_done (by kernel_rfl) ?_ _
      subst hQ
      refine ⟨r1,by rw [HB.out];exact r2,?_⟩
      have e:kidsF (kids (pre++[x]))=(kidsF (kids pre)).app (.cons x.1.nm x.1.v x.1.m x.1.k.flat .nil):=by
       rw [show kids (pre++[x])=kids pre++[x.1] by simp,kidsF_app];rfl
      show NI w B v m (kidsF (kids (pre++[x]))) (pre++[x]).length Wz
      rw [e,List.length_append,List.length_singleton,HN0.out.1]
      exact r3
     clear hVc hVa hB1 how hgr hat hgr3 hat3
     have c6_7_8:wpAnyIn (Fence.wide.inRound l) (3-1-1) Tryz.prog .any ops Q 1 #[true,true,true,true,true,true,true,true,true,false] { tmps:=#[.pointer (some ⟨p,0,none⟩),undef,.pointer (some ⟨B,0,none⟩),.pointer (some ⟨B+1,0,none⟩),.string x.1.nm,.pointer (some ⟨x.1.p,0,none⟩),.pointer (some ⟨D,0,none⟩),.pointer (some ⟨p,0,none⟩),.pointer (some ⟨p,0,none⟩),.pointer (some ⟨p,0,none⟩),.agg X,.pointer (some ⟨p,0,none⟩),.pointer (some ⟨p,0,none⟩),.pointer (some ⟨p,35,none⟩),.agg M,.agg CN,.pointer (some ⟨p,0,none⟩),.pointer (some ⟨p,0,none⟩),.pointer (some ⟨p,39,none⟩),.pointer (some ⟨q1,0,none⟩),.bool false,undef,.pointer (some ⟨p,0,none⟩),.pointer (some ⟨p,0,none⟩),.pointer (some ⟨p,39,none⟩),.pointer (some ⟨q1,0,none⟩),.pointer (some ⟨q1,0,none⟩),.pointer (some ⟨q1,4,none⟩),.int .i64 N,.slice (some ⟨B+2,0,none⟩) 0 N,.pointer (some ⟨B+1,40,none⟩),.pointer (some ⟨p,0,none⟩),.func (.func 89) #[] #[.pointer (some ⟨Bt,0,none⟩)],.string x.1.nm,.pointer (some ⟨x.1.p,0,none⟩),.pointer (some ⟨x.1.p,0,none⟩),.agg c2,.string x.1.nm,.pointer (some ⟨D,0,none⟩),.pointer (some ⟨B+1,40,none⟩),.slice ao n0 uc,.agg cn,.int .i64 n0,.slice (some ⟨D+1,0,none⟩) 1 1,.slice (some ⟨g,0,none⟩) (n0+1) cap,.pointer (some ⟨g,n0*41,none⟩),.pointer (some ⟨B+1,40,none⟩),undef],defers:=[] } (Wa.setCells g (n0*41) cn.toList):=by
      skip
      subst hops
      refine wpAnyIn_ready (rs:=[9]) (by kernel_rfl) (by simp) ?_
      exact (skipR 9 ((Wa.setCells g (n0*41) cn.toList).setCell ⟨B+1,40,none⟩ (.slice (some ⟨g,0,none⟩) (n0+1) cap)) rfl rfl (by kernel_rfl) (by intro c h;cases h) (by have y:=HC9.out.2.1;have z:=HC9.out.2.2;go_simp) (by try simp only [List.setIfInBounds_toArray,List.set_cons_zero,List.set_cons_succ];exact cfin _ hLa) AllReadyIn.nil)
     have c6_8_9:wpAnyIn (Fence.wide.inRound l) (3-1-1) Tryz.prog .any ops Q 1 #[true,true,true,true,true,true,true,false,true,true] { tmps:=#[.pointer (some ⟨p,0,none⟩),undef,.pointer (some ⟨B,0,none⟩),.pointer (some ⟨B+1,0,none⟩),.string x.1.nm,.pointer (some ⟨x.1.p,0,none⟩),.pointer (some ⟨D,0,none⟩),.pointer (some ⟨p,0,none⟩),.pointer (some ⟨p,0,none⟩),.pointer (some ⟨p,0,none⟩),.agg X,.pointer (some ⟨p,0,none⟩),.pointer (some ⟨p,0,none⟩),.pointer (some ⟨p,35,none⟩),.agg M,.agg CN,.pointer (some ⟨p,0,none⟩),.pointer (some ⟨p,0,none⟩),.pointer (some ⟨p,39,none⟩),.pointer (some ⟨q1,0,none⟩),.bool false,undef,.pointer (some ⟨p,0,none⟩),.pointer (some ⟨p,0,none⟩),.pointer (some ⟨p,39,none⟩),.pointer (some ⟨q1,0,none⟩),.pointer (some ⟨q1,0,none⟩),.pointer (some ⟨q1,4,none⟩),.int .i64 N,.slice (some ⟨B+2,0,none⟩) 0 N,.pointer (some ⟨B+1,40,none⟩),.pointer (some ⟨p,0,none⟩),.func (.func 89) #[] #[.pointer (some ⟨Bt,0,none⟩)],.string x.1.nm,.pointer (some ⟨x.1.p,0,none⟩),.pointer (some ⟨x.1.p,0,none⟩),.agg c2,.string x.1.nm,.pointer (some ⟨D,0,none⟩),.pointer (some ⟨B+1,40,none⟩),.slice ao n0 uc,.agg cn,.int .i64 n0,.slice (some ⟨D+1,0,none⟩) 1 1,.slice (some ⟨g,0,none⟩) (n0+1) cap,.pointer (some ⟨g,n0*41,none⟩),.pointer (some ⟨B+1,40,none⟩),undef],defers:=[] } (Wa.setCell ⟨B+1,40,none⟩ (.slice (some ⟨g,0,none⟩) (n0+1) cap)):=by
      skip
      subst hops
      refine wpAnyIn_ready (rs:=[7]) (by kernel_rfl) (by simp) ?_
      exact (skipR 7 ((Wa.setCell ⟨B+1,40,none⟩ (.slice (some ⟨g,0,none⟩) (n0+1) cap)).setCells g (n0*41) cn.toList) rfl rfl (by kernel_rfl) (by intro c h;cases h) (exec_store30m _ _ rfl g (n0*41) cn rfl rfl _ (HTH.out.2) HCS.out.1 HCS.out.2) (by try simp only [List.setIfInBounds_toArray,List.set_cons_zero,List.set_cons_succ];exact cfin _ hLb) AllReadyIn.nil)
     have c6_7:wpAnyIn (Fence.wide.inRound l) (3-1-1) Tryz.prog .any ops Q 2 #[true,true,true,true,true,true,true,true,false,false] { tmps:=#[.pointer (some ⟨p,0,none⟩),undef,.pointer (some ⟨B,0,none⟩),.pointer (some ⟨B+1,0,none⟩),.string x.1.nm,.pointer (some ⟨x.1.p,0,none⟩),.pointer (some ⟨D,0,none⟩),.pointer (some ⟨p,0,none⟩),.pointer (some ⟨p,0,none⟩),.pointer (some ⟨p,0,none⟩),.agg X,.pointer (some ⟨p,0,none⟩),.pointer (some ⟨p,0,none⟩),.pointer (some ⟨p,35,none⟩),.agg M,.agg CN,.pointer (some ⟨p,0,none⟩),.pointer (some ⟨p,0,none⟩),.pointer (some ⟨p,39,none⟩),.pointer (some ⟨q1,0,none⟩),.bool false,undef,.pointer (some ⟨p,0,none⟩),.pointer (some ⟨p,0,none⟩),.pointer (some ⟨p,39,none⟩),.pointer (some ⟨q1,0,none⟩),.pointer (some ⟨q1,0,none⟩),.pointer (some ⟨q1,4,none⟩),.int .i64 N,.slice (some ⟨B+2,0,none⟩) 0 N,.pointer (some ⟨B+1,40,none⟩),.pointer (some ⟨p,0,none⟩),.func (.func 89) #[] #[.pointer (some ⟨Bt,0,none⟩)],.string x.1.nm,.pointer (some ⟨x.1.p,0,none⟩),.pointer (some ⟨x.1.p,0,none⟩),.agg c2,.string x.1.nm,.pointer (some ⟨D,0,none⟩),.pointer (some ⟨B+1,40,none⟩),.slice ao n0 uc,.agg cn,.int .i64 n0,.slice (some ⟨D+1,0,none⟩) 1 1,.slice (some ⟨g,0,none⟩) (n0+1) cap,.pointer (some ⟨g,n0*41,none⟩),undef,undef],defers:=[] } (Wa.setCells g (n0*41) cn.toList):=by
      clear c6_8_9
      subst hops
      refine wpAnyIn_ready (rs:=[8]) (by kernel_rfl) (by simp) ?_
      exact (valueR 8 46 (.pointer (some ⟨B+1,40,none⟩)) (Wa.setCells g (n0*41) cn.toList) rfl rfl (by kernel_rfl) (by intro c h;cases h) (by go_simp) (by try simp only [Act.put,sA,sB,sC];exact c6_7_8) AllReadyIn.nil)
     have c6_8:wpAnyIn (Fence.wide.inRound l) (3-1-1) Tryz.prog .any ops Q 2 #[true,true,true,true,true,true,true,false,true,false] { tmps:=#[.pointer (some ⟨p,0,none⟩),undef,.pointer (some ⟨B,0,none⟩),.pointer (some ⟨B+1,0,none⟩),.string x.1.nm,.pointer (some ⟨x.1.p,0,none⟩),.pointer (some ⟨D,0,none⟩),.pointer (some ⟨p,0,none⟩),.pointer (some ⟨p,0,none⟩),.pointer (some ⟨p,0,none⟩),.agg X,.pointer (some ⟨p,0,none⟩),.pointer (some ⟨p,0,none⟩),.pointer (some ⟨p,35,none⟩),.agg M,.agg CN,.pointer (some ⟨p,0,none⟩),.pointer (some ⟨p,0,none⟩),.pointer (some ⟨p,39,none⟩),.pointer (some ⟨q1,0,none⟩),.bool false,undef,.pointer (some ⟨p,0,none⟩),.pointer (some ⟨p,0,none⟩),.pointer (some ⟨p,39,none⟩),.pointer (some ⟨q1,0,none⟩),.pointer (some ⟨q1,0,none⟩),.pointer (some ⟨q1,4,none⟩),.int .i64 N,.slice (some ⟨B+2,0,none⟩) 0 N,.pointer (some ⟨B+1,40,none⟩),.pointer (some ⟨p,0,none⟩),.func (.func 89) #[] #[.pointer (some ⟨Bt,0,none⟩)],.string x.1.nm,.pointer (some ⟨x.1.p,0,none⟩),.pointer (some ⟨x.1.p,0,none⟩),.agg c2,.string x.1.nm,.pointer (some ⟨D,0,none⟩),.pointer (some ⟨B+1,40,none⟩),.slice ao n0 uc,.agg cn,.int .i64 n0,.slice (some ⟨D+1,0,none⟩) 1 1,.slice (some ⟨g,0,none⟩) (n0+1) cap,.pointer (some ⟨g,n0*41,none⟩),.pointer (some ⟨B+1,40,none⟩),undef],defers:=[] } (Wa):=by
      skip
      subst hops
      refine wpAnyIn_ready (rs:=[7,9]) (by kernel_rfl) (by simp) ?_
      exact (skipR 7 (Wa.setCells g (n0*41) cn.toList) rfl rfl (by kernel_rfl) (by intro c h;cases h) (exec_store30m _ _ rfl g (n0*41) cn rfl rfl _ (HTH.out.1) HCS.out.1 HCS.out.2) (by try simp only [List.setIfInBounds_toArray,List.set_cons_zero,List.set_cons_succ];exact c6_7_8) (skipR 9 (Wa.setCell ⟨B+1,40,none⟩ (.slice (some ⟨g,0,none⟩) (n0+1) cap)) rfl rfl (by kernel_rfl) (by intro c h;cases h) (by have y:=HC9.out.1.1;have z:=HC9.out.1.2;go_simp) (by try simp only [List.setIfInBounds_toArray,List.set_cons_zero,List.set_cons_succ];exact c6_8_9) AllReadyIn.nil))
     have c8_9:wpAnyIn (Fence.wide.inRound l) (3-1-1) Tryz.prog .any ops Q 2 #[true,true,true,true,true,true,false,false,true,true] { tmps:=#[.pointer (some ⟨p,0,none⟩),undef,.pointer (some ⟨B,0,none⟩),.pointer (some ⟨B+1,0,none⟩),.string x.1.nm,.pointer (some ⟨x.1.p,0,none⟩),.pointer (some ⟨D,0,none⟩),.pointer (some ⟨p,0,none⟩),.pointer (some ⟨p,0,none⟩),.pointer (some ⟨p,0,none⟩),.agg X,.pointer (some ⟨p,0,none⟩),.pointer (some ⟨p,0,none⟩),.pointer (some ⟨p,35,none⟩),.agg M,.agg CN,.pointer (some ⟨p,0,none⟩),.pointer (some ⟨p,0,none⟩),.pointer (some ⟨p,39,none⟩),.pointer (some ⟨q1,0,none⟩),.bool false,undef,.pointer (some ⟨p,0,none⟩),.pointer (some ⟨p,0,none⟩),.pointer (some ⟨p,39,none⟩),.pointer (some ⟨q1,0,none⟩),.pointer (some ⟨q1,0,none⟩),.pointer (some ⟨q1,4,none⟩),.int .i64 N,.slice (some ⟨B+2,0,none⟩) 0 N,.pointer (some ⟨B+1,40,none⟩),.pointer (some ⟨p,0,none⟩),.func (.func 89) #[] #[.pointer (some ⟨Bt,0,none⟩)],.string x.1.nm,.pointer (some ⟨x.1.p,0,none⟩),.pointer (some ⟨x.1.p,0,none⟩),.agg c2,.string x.1.nm,.pointer (some ⟨D,0,none⟩),.pointer (some ⟨B+1,40,none⟩),.slice ao n0 uc,.agg cn,.int .i64 n0,.slice (some ⟨D+1,0,none⟩) 1 1,.slice (some ⟨g,0,none⟩) (n0+1) cap,undef,.pointer (some ⟨B+1,40,none⟩),undef],defers:=[] } (Wa.setCell ⟨B+1,40,none⟩ (.slice (some ⟨g,0,none⟩) (n0+1) cap)):=by
      clear c6_7_8
      subst hops
      refine wpAnyIn_ready (rs:=[6]) (by kernel_rfl) (by simp) ?_
      exact (valueR 6 45 (.pointer (some ⟨g,n0*41,none⟩)) (Wa.setCell ⟨B+1,40,none⟩ (.slice (some ⟨g,0,none⟩) (n0+1) cap)) rfl rfl (by kernel_rfl) (by intro c h;cases h) (by (go_simp;intro h;omega)) (by try simp only [Act.put,sA,sB,sC];exact c6_8_9) AllReadyIn.nil)
     have c6:wpAnyIn (Fence.wide.inRound l) (3-1-1) Tryz.prog .any ops Q 3 #[true,true,true,true,true,true,true,false,false,false] { tmps:=#[.pointer (some ⟨p,0,none⟩),undef,.pointer (some ⟨B,0,none⟩),.pointer (some ⟨B+1,0,none⟩),.string x.1.nm,.pointer (some ⟨x.1.p,0,none⟩),.pointer (some ⟨D,0,none⟩),.pointer (some ⟨p,0,none⟩),.pointer (some ⟨p,0,none⟩),.pointer (some ⟨p,0,none⟩),.agg X,.pointer (some ⟨p,0,none⟩),.pointer (some ⟨p,0,none⟩),.pointer (some ⟨p,35,none⟩),.agg M,.agg CN,.pointer (some ⟨p,0,none⟩),.pointer (some ⟨p,0,none⟩),.pointer (some ⟨p,39,none⟩),.pointer (some ⟨q1,0,none⟩),.bool false,undef,.pointer (some ⟨p,0,none⟩),.pointer (some ⟨p,0,none⟩),.pointer (some ⟨p,39,none⟩),.pointer (some ⟨q1,0,none⟩),.pointer (some ⟨q1,0,none⟩),.pointer (some ⟨q1,4,none⟩),.int .i64 N,.slice (some ⟨B+2,0,none⟩) 0 N,.pointer (some ⟨B+1,40,none⟩),.pointer (some ⟨p,0,none⟩),.func (.func 89) #[] #[.pointer (some ⟨Bt,0,none⟩)],.string x.1.nm,.pointer (some ⟨x.1.p,0,none⟩),.pointer (some ⟨x.1.p,0,none⟩),.agg c2,.string x.1.nm,.pointer (some ⟨D,0,none⟩),.pointer (some ⟨B+1,40,none⟩),.slice ao n0 uc,.agg cn,.int .i64 n0,.slice (some ⟨D+1,0,none⟩) 1 1,.slice (some ⟨g,0,none⟩) (n0+1) cap,.pointer (some ⟨g,n0*41,none⟩),undef,undef],defers:=[] } (Wa):=by
      clear c6_7_8 c6_8_9 c8_9
      subst hops
      refine wpAnyIn_ready (rs:=[7,8]) (by kernel_rfl) (by simp) ?_
      exact (skipR 7 (Wa.setCells g (n0*41) cn.toList) rfl rfl (by kernel_rfl) (by intro c h;cases h) (exec_store30m _ _ rfl g (n0*41) cn rfl rfl _ (HTH.out.1) HCS.out.1 HCS.out.2) (by try simp only [List.setIfInBounds_toArray,List.set_cons_zero,List.set_cons_succ];exact c6_7) (valueR 8 46 (.pointer (some ⟨B+1,40,none⟩)) (Wa) rfl rfl (by kernel_rfl) (by intro c h;cases h) (by go_simp) (by try simp only [Act.put,sA,sB,sC];exact c6_8) AllReadyIn.nil))
     have c8:wpAnyIn (Fence.wide.inRound l) (3-1-1) Tryz.prog .any ops Q 3 #[true,true,true,true,true,true,false,false,true,false] { tmps:=#[.pointer (some ⟨p,0,none⟩),undef,.pointer (some ⟨B,0,none⟩),.pointer (some ⟨B+1,0,none⟩),.string x.1.nm,.pointer (some ⟨x.1.p,0,none⟩),.pointer (some ⟨D,0,none⟩),.pointer (some ⟨p,0,none⟩),.pointer (some ⟨p,0,none⟩),.pointer (some ⟨p,0,none⟩),.agg X,.pointer (some ⟨p,0,none⟩),.pointer (some ⟨p,0,none⟩),.pointer (some ⟨p,35,none⟩),.agg M,.agg CN,.pointer (some ⟨p,0,none⟩),.pointer (some ⟨p,0,none⟩),.pointer (some ⟨p,39,none⟩),.pointer (some ⟨q1,0,none⟩),.bool false,undef,.pointer (some ⟨p,0,none⟩),.pointer (some ⟨p,0,none⟩),.pointer (some ⟨p,39,none⟩),.pointer (some ⟨q1,0,none⟩),.pointer (some ⟨q1,0,none⟩),.pointer (some ⟨q1,4,none⟩),.int .i64 N,.slice (some ⟨B+2,0,none⟩) 0 N,.pointer (some ⟨B+1,40,none⟩),.pointer (some ⟨p,0,none⟩),.func (.func 89) #[] #[.pointer (some ⟨Bt,0,none⟩)],.string x.1.nm,.pointer (some ⟨x.1.p,0,none⟩),.pointer (some ⟨x.1.p,0,none⟩),.agg c2,.string x.1.nm,.pointer (some ⟨D,0,none⟩),.pointer (some ⟨B+1,40,none⟩),.slice ao n0 uc,.agg cn,.int .i64 n0,.slice (some ⟨D+1,0,none⟩) 1 1,.slice (some ⟨g,0,none⟩) (n0+1) cap,undef,.pointer (some ⟨B+1,40,none⟩),undef],defers:=[] } (Wa):=by
      clear c6_7_8 c6_8_9 c6_7
      subst hops
      refine wpAnyIn_ready (rs:=[6,9]) (by kernel_rfl) (by simp) ?_
      exact (valueR 6 45 (.pointer (some ⟨g,n0*41,none⟩)) (Wa) rfl rfl (by kernel_rfl) (by intro c h;cases h) (by (go_simp;intro h;omega)) (by try simp only [Act.put,sA,sB,sC];exact c6_8) (skipR 9 (Wa.setCell ⟨B+1,40,none⟩ (.slice (some ⟨g,0,none⟩) (n0+1) cap)) rfl rfl (by kernel_rfl) (by intro c h;cases h) (by have y:=HC9.out.1.1;have z:=HC9.out.1.2;go_simp) (by try simp only [List.setIfInBounds_toArray,List.set_cons_zero,List.set_cons_succ];exact c8_9) AllReadyIn.nil))
     have cz:wpAnyIn (Fence.wide.inRound l) (3-1-1) Tryz.prog .any ops Q 4 #[true,true,true,true,true,true,false,false,false,false] { tmps:=#[.pointer (some ⟨p,0,none⟩),undef,.pointer (some ⟨B,0,none⟩),.pointer (some ⟨B+1,0,none⟩),.string x.1.nm,.pointer (some ⟨x.1.p,0,none⟩),.pointer (some ⟨D,0,none⟩),.pointer (some ⟨p,0,none⟩),.pointer (some ⟨p,0,none⟩),.pointer (some ⟨p,0,none⟩),.agg X,.pointer (some ⟨p,0,none⟩),.pointer (some ⟨p,0,none⟩),.pointer (some ⟨p,35,none⟩),.agg M,.agg CN,.pointer (some ⟨p,0,none⟩),.pointer (some ⟨p,0,none⟩),.pointer (some ⟨p,39,none⟩),.pointer (some ⟨q1,0,none⟩),.bool false,undef,.pointer (some ⟨p,0,none⟩),.pointer (some ⟨p,0,none⟩),.pointer (some ⟨p,39,none⟩),.pointer (some ⟨q1,0,none⟩),.pointer (some ⟨q1,0,none⟩),.pointer (some ⟨q1,4,none⟩),.int .i64 N,.slice (some ⟨B+2,0,none⟩) 0 N,.pointer (some ⟨B+1,40,none⟩),.pointer (some ⟨p,0,none⟩),.func (.func 89) #[] #[.pointer (some ⟨Bt,0,none⟩)],.string x.1.nm,.pointer (some ⟨x.1.p,0,none⟩),.pointer (some ⟨x.1.p,0,none⟩),.agg c2,.string x.1.nm,.pointer (some ⟨D,0,none⟩),.pointer (some ⟨B+1,40,none⟩),.slice ao n0 uc,.agg cn,.int .i64 n0,.slice (some ⟨D+1,0,none⟩) 1 1,.slice (some ⟨g,0,none⟩) (n0+1) cap,undef,undef,undef],defers:=[] } (Wa):=by
      clear c6_7_8 c6_8_9 c6_7 c6_8 c8_9
      subst hops
      refine wpAnyIn_ready (rs:=[6,8]) (by kernel_rfl) (by simp) ?_
      exact (valueR 6 45 (.pointer (some ⟨g,n0*41,none⟩)) (Wa) rfl rfl (by kernel_rfl) (by intro c h;cases h) (by (go_simp;intro h;omega)) (by try simp only [Act.put,sA,sB,sC];exact c6) (valueR 8 46 (.pointer (some ⟨B+1,40,none⟩)) (Wa) rfl rfl (by kernel_rfl) (by intro c h;cases h) (by go_simp) (by try simp only [Act.put,sA,sB,sC];exact c8) AllReadyIn.nil))
     exact cz
    have bfull:wpAnyIn (Fence.wide.inRound l) (3-1-1) Tryz.prog .any ops Q 5 #[true,true,true,true,true,false,false,false,false,false] { tmps:=#[.pointer (some ⟨p,0,none⟩),undef,.pointer (some ⟨B,0,none⟩),.pointer (some ⟨B+1,0,none⟩),.string x.1.nm,.pointer (some ⟨x.1.p,0,none⟩),.pointer (some ⟨D,0,none⟩),.pointer (some ⟨p,0,none⟩),.pointer (some ⟨p,0,none⟩),.pointer (some ⟨p,0,none⟩),.agg X,.pointer (some ⟨p,0,none⟩),.pointer (some ⟨p,0,none⟩),.pointer (some ⟨p,35,none⟩),.agg M,.agg CN,.pointer (some ⟨p,0,none⟩),.pointer (some ⟨p,0,none⟩),.pointer (some ⟨p,39,none⟩),.pointer (some ⟨q1,0,none⟩),.bool false,undef,.pointer (some ⟨p,0,none⟩),.pointer (some ⟨p,0,none⟩),.pointer (some ⟨p,39,none⟩),.pointer (some ⟨q1,0,none⟩),.pointer (some ⟨q1,0,none⟩),.pointer (some ⟨q1,4,none⟩),.int .i64 N,.slice (some ⟨B+2,0,none⟩) 0 N,.pointer (some ⟨B+1,40,none⟩),.pointer (some ⟨p,0,none⟩),.func (.func 89) #[] #[.pointer (some ⟨Bt,0,none⟩)],.string x.1.nm,.pointer (some ⟨x.1.p,0,none⟩),.pointer (some ⟨x.1.p,0,none⟩),.agg c2,.string x.1.nm,.pointer (some ⟨D,0,none⟩),.pointer (some ⟨B+1,40,none⟩),.slice ao n0 uc,.agg cn,.int .i64 n0,.slice (some ⟨D+1,0,none⟩) 1 1,undef,undef,undef,undef],defers:=[] } (Wd.alloc (.cells z30 30)):=by
     have hB1:=(HVB.out Wd (G.refl _)).lt
     obtain ⟨o5,ho5,hop5,hd5,hgd5⟩:∃ o5,ops[5]?=some o5∧o5.op=.call { callee:=.builtin .append,args:=#[.tmp 40,.tmp 43],argTypes:=#[28,28] }∧o5.dst=some 44∧o5.guard=none:=by subst hops;exact ⟨_,rfl,rfl,rfl,rfl⟩
     refine wpAnyIn_ready (rs:=[5]) (by subst hops;kernel_rfl) (by simp) ?_
     obtain ⟨g,cap,Wa,hx,ho,hgr,hat⟩:=exec_append30 (o:=o5) (a:={ tmps:=#[.pointer (some ⟨p,0,none⟩),undef,.pointer (some ⟨B,0,none⟩),.pointer (some ⟨B+1,0,none⟩),.string x.1.nm,.pointer (some ⟨x.1.p,0,none⟩),.pointer (some ⟨D,0,none⟩),.pointer (some ⟨p,0,none⟩),.pointer (some ⟨p,0,none⟩),.pointer (some ⟨p,0,none⟩),.agg X,.pointer (some ⟨p,0,none⟩),.pointer (some ⟨p,0,none⟩),.pointer (some ⟨p,35,none⟩),.agg M,.agg CN,.pointer (some ⟨p,0,none⟩),.pointer (some ⟨p,0,none⟩),.pointer (some ⟨p,39,none⟩),.pointer (some ⟨q1,0,none⟩),.bool false,undef,.pointer (some ⟨p,0,none⟩),.pointer (some ⟨p,0,none⟩),.pointer (some ⟨p,39,none⟩),.pointer (some ⟨q1,0,none⟩),.pointer (some ⟨q1,0,none⟩),.pointer (some ⟨q1,4,none⟩),.int .i64 N,.slice (some ⟨B+2,0,none⟩) 0 N,.pointer (some ⟨B+1,40,none⟩),.pointer (some ⟨p,0,none⟩),.func (.func 89) #[] #[.pointer (some ⟨Bt,0,none⟩)],.string x.1.nm,.pointer (some ⟨x.1.p,0,none⟩),.pointer (some ⟨x.1.p,0,none⟩),.agg c2,.string x.1.nm,.pointer (some ⟨D,0,none⟩),.pointer (some ⟨B+1,40,none⟩),.slice ao n0 uc,.agg cn,.int .i64 n0,.slice (some ⟨D+1,0,none⟩) 1 1,undef,undef,undef,undef],defers:=[] }) (.tmp 40) (.tmp 43) hop5 (B+2) n0 (.slice ao n0 uc) xs (Wd.alloc (.cells z30 30)) rfl (World.ownsRow.alloc (owns_growR HI.out.2.2.2.1 HWd.out.1) _) ⟨D+1,0,none⟩ z30 rfl jU (fun j u hj=>by rw [Addr.add_mid,← HWS.out];exact jh Wd z30 30 j u hj) (nc_one _ _ _ _ rfl) HN0.out.2 (by simp;omega)
     exact valueR 5 44 (.slice (some ⟨g,0,none⟩) (n0+1) cap) Wa ho5 hd5 (by simp [Region.wanted,hgd5]) (by rw [hop5];intro c h;cases h) hx (by try simp only [Act.put,sA,sB,sC];exact cph g cap Wa ho hgr hat) AllReadyIn.nil
    have b0_1_2_3:wpAnyIn (Fence.wide.inRound l) (3-1-1) Tryz.prog .any ops Q 6 #[true,true,true,true,false,false,false,false,false,false] { tmps:=#[.pointer (some ⟨p,0,none⟩),undef,.pointer (some ⟨B,0,none⟩),.pointer (some ⟨B+1,0,none⟩),.string x.1.nm,.pointer (some ⟨x.1.p,0,none⟩),.pointer (some ⟨D,0,none⟩),.pointer (some ⟨p,0,none⟩),.pointer (some ⟨p,0,none⟩),.pointer (some ⟨p,0,none⟩),.agg X,.pointer (some ⟨p,0,none⟩),.pointer (some ⟨p,0,none⟩),.pointer (some ⟨p,35,none⟩),.agg M,.agg CN,.pointer (some ⟨p,0,none⟩),.pointer (some ⟨p,0,none⟩),.pointer (some ⟨p,39,none⟩),.pointer (some ⟨q1,0,none⟩),.bool false,undef,.pointer (some ⟨p,0,none⟩),.pointer (some ⟨p,0,none⟩),.pointer (some ⟨p,39,none⟩),.pointer (some ⟨q1,0,none⟩),.pointer (some ⟨q1,0,none⟩),.pointer (some ⟨q1,4,none⟩),.int .i64 N,.slice (some ⟨B+2,0,none⟩) 0 N,.pointer (some ⟨B+1,40,none⟩),.pointer (some ⟨p,0,none⟩),.func (.func 89) #[] #[.pointer (some ⟨Bt,0,none⟩)],.string x.1.nm,.pointer (some ⟨x.1.p,0,none⟩),.pointer (some ⟨x.1.p,0,none⟩),.agg c2,.string x.1.nm,.pointer (some ⟨D,0,none⟩),.pointer (some ⟨B+1,40,none⟩),.slice ao n0 uc,.agg cn,.int .i64 n0,undef,undef,undef,undef,undef],defers:=[] } (Wd):=by
     skip
     subst hops
     refine wpAnyIn_ready (rs:=[4]) (by kernel_rfl) (by simp) ?_
     exact (valueR 4 43 (.slice (some ⟨D+1,0,none⟩) 1 1) (Wd.alloc (.cells z30 30)) rfl rfl (by kernel_rfl) (by intro c h;cases h) (js _ rfl z30 rfl jU Wd (D+1) HWS.out) (by try simp only [Act.put,sA,sB,sC];exact bfull) AllReadyIn.nil)
    have b0_1_2_4:wpAnyIn (Fence.wide.inRound l) (3-1-1) Tryz.prog .any ops Q 6 #[true,true,true,false,true,false,false,false,false,false] { tmps:=#[.pointer (some ⟨p,0,none⟩),undef,.pointer (some ⟨B,0,none⟩),.pointer (some ⟨B+1,0,none⟩),.string x.1.nm,.pointer (some ⟨x.1.p,0,none⟩),.pointer (some ⟨D,0,none⟩),.pointer (some ⟨p,0,none⟩),.pointer (some ⟨p,0,none⟩),.pointer (some ⟨p,0,none⟩),.agg X,.pointer (some ⟨p,0,none⟩),.pointer (some ⟨p,0,none⟩),.pointer (some ⟨p,35,none⟩),.agg M,.agg CN,.pointer (some ⟨p,0,none⟩),.pointer (some ⟨p,0,none⟩),.pointer (some ⟨p,39,none⟩),.pointer (some ⟨q1,0,none⟩),.bool false,undef,.pointer (some ⟨p,0,none⟩),.pointer (some ⟨p,0,none⟩),.pointer (some ⟨p,39,none⟩),.pointer (some ⟨q1,0,none⟩),.pointer (some ⟨q1,0,none⟩),.pointer (some ⟨q1,4,none⟩),.int .i64 N,.slice (some ⟨B+2,0,none⟩) 0 N,.pointer (some ⟨B+1,40,none⟩),.pointer (some ⟨p,0,none⟩),.func (.func 89) #[] #[.pointer (some ⟨Bt,0,none⟩)],.string x.1.nm,.pointer (some ⟨x.1.p,0,none⟩),.pointer (some ⟨x.1.p,0,none⟩),.agg c2,.string x.1.nm,.pointer (some ⟨D,0,none⟩),.pointer (some ⟨B+1,40,none⟩),.slice ao n0 uc,.agg cn,undef,.slice (some ⟨D+1,0,none⟩) 1 1,undef,undef,undef,undef],defers:=[] } (Wd.alloc (.cells z30 30)):=by
     skip
     subst hops
     refine wpAnyIn_ready (rs:=[3]) (by kernel_rfl) (by simp) ?_
     exact (valueR 3 42 (.int .i64 n0) (Wd.alloc (.cells z30 30)) rfl rfl (by kernel_rfl) (by intro c h;cases h) (by go_simp) (by try simp only [Act.put,sA,sB,sC];exact bfull) AllReadyIn.nil)
    have b0_1_3_4:wpAnyIn (Fence.wide.inRound l) (3-1-1) Tryz.prog .any ops Q 6 #[true,true,false,true,true,false,false,false,false,false] { tmps:=#[.pointer (some ⟨p,0,none⟩),undef,.pointer (some ⟨B,0,none⟩),.pointer (some ⟨B+1,0,none⟩),.string x.1.nm,.pointer (some ⟨x.1.p,0,none⟩),.pointer (some ⟨D,0,none⟩),.pointer (some ⟨p,0,none⟩),.pointer (some ⟨p,0,none⟩),.pointer (some ⟨p,0,none⟩),.agg X,.pointer (some ⟨p,0,none⟩),.pointer (some ⟨p,0,none⟩),.pointer (some ⟨p,35,none⟩),.agg M,.agg CN,.pointer (some ⟨p,0,none⟩),.pointer (some ⟨p,0,none⟩),.pointer (some ⟨p,39,none⟩),.pointer (some ⟨q1,0,none⟩),.bool false,undef,.pointer (some ⟨p,0,none⟩),.pointer (some ⟨p,0,none⟩),.pointer (some ⟨p,39,none⟩),.pointer (some ⟨q1,0,none⟩),.pointer (some ⟨q1,0,none⟩),.pointer (some ⟨q1,4,none⟩),.int .i64 N,.slice (some ⟨B+2,0,none⟩) 0 N,.pointer (some ⟨B+1,40,none⟩),.pointer (some ⟨p,0,none⟩),.func (.func 89) #[] #[.pointer (some ⟨Bt,0,none⟩)],.string x.1.nm,.pointer (some ⟨x.1.p,0,none⟩),.pointer (some ⟨x.1.p,0,none⟩),.agg c2,.string x.1.nm,.pointer (some ⟨D,0,none⟩),.pointer (some ⟨B+1,40,none⟩),.slice ao n0 uc,undef,.int .i64 n0,.slice (some ⟨D+1,0,none⟩) 1 1,undef,undef,undef,undef],defers:=[] } (Wd.alloc (.cells z30 30)):=by
     skip
     subst hops
     refine wpAnyIn_ready (rs:=[2]) (by kernel_rfl) (by simp) ?_
     exact (valueR 2 41 (.agg cn) (Wd.alloc (.cells z30 30)) rfl rfl (by kernel_rfl) (by intro c h;cases h) (jH _ rfl D 0 rfl cn HCS.out.1 (HVD.out _ (G.alloc _ _)).lies) (by try simp only [Act.put,sA,sB,sC];exact bfull) AllReadyIn.nil)
    have b0_1_2:wpAnyIn (Fence.wide.inRound l) (3-1-1) Tryz.prog .any ops Q 7 #[true,true,true,false,false,false,false,false,false,false] { tmps:=#[.pointer (some ⟨p,0,none⟩),undef,.pointer (some ⟨B,0,none⟩),.pointer (some ⟨B+1,0,none⟩),.string x.1.nm,.pointer (some ⟨x.1.p,0,none⟩),.pointer (some ⟨D,0,none⟩),.pointer (some ⟨p,0,none⟩),.pointer (some ⟨p,0,none⟩),.pointer (some ⟨p,0,none⟩),.agg X,.pointer (some ⟨p,0,none⟩),.pointer (some ⟨p,0,none⟩),.pointer (some ⟨p,35,none⟩),.agg M,.agg CN,.pointer (some ⟨p,0,none⟩),.pointer (some ⟨p,0,none⟩),.pointer (some ⟨p,39,none⟩),.pointer (some ⟨q1,0,none⟩),.bool false,undef,.pointer (some ⟨p,0,none⟩),.pointer (some ⟨p,0,none⟩),.pointer (some ⟨p,39,none⟩),.pointer (some ⟨q1,0,none⟩),.pointer (some ⟨q1,0,none⟩),.pointer (some ⟨q1,4,none⟩),.int .i64 N,.slice (some ⟨B+2,0,none⟩) 0 N,.pointer (some ⟨B+1,40,none⟩),.pointer (some ⟨p,0,none⟩),.func (.func 89) #[] #[.pointer (some ⟨Bt,0,none⟩)],.string x.1.nm,.pointer (some ⟨x.1.p,0,none⟩),.pointer (some ⟨x.1.p,0,none⟩),.agg c2,.string x.1.nm,.pointer (some ⟨D,0,none⟩),.pointer (some ⟨B+1,40,none⟩),.slice ao n0 uc,.agg cn,undef,undef,undef,undef,undef,undef],defers:=[] } (Wd):=by
     clear b0_1_3_4
     subst hops
     refine wpAnyIn_ready (rs:=[3,4]) (by kernel_rfl) (by simp) ?_
     exact (valueR 3 42 (.int .i64 n0) (Wd) rfl rfl (by kernel_rfl) (by intro c h;cases h) (by go_simp) (by try simp only [Act.put,sA,sB,sC];exact b0_1_2_3) (valueR 4 43 (.slice (some ⟨D+1,0,none⟩) 1 1) (Wd.alloc (.cells z30 30)) rfl rfl (by kernel_rfl) (by intro c h;cases h) (js _ rfl z30 rfl jU Wd (D+1) HWS.out) (by try simp only [Act.put,sA,sB,sC];exact b0_1_2_4) AllReadyIn.nil))
    have b0_1_3:wpAnyIn (Fence.wide.inRound l) (3-1-1) Tryz.prog .any ops Q 7 #[true,true,false,true,false,false,false,false,false,false] { tmps:=#[.pointer (some ⟨p,0,none⟩),undef,.pointer (some ⟨B,0,none⟩),.pointer (some ⟨B+1,0,none⟩),.string x.1.nm,.pointer (some ⟨x.1.p,0,none⟩),.pointer (some ⟨D,0,none⟩),.pointer (some ⟨p,0,none⟩),.pointer (some ⟨p,0,none⟩),.pointer (some ⟨p,0,none⟩),.agg X,.pointer (some ⟨p,0,none⟩),.pointer (some ⟨p,0,none⟩),.pointer (some ⟨p,35,none⟩),.agg M,.agg CN,.pointer (some ⟨p,0,none⟩),.pointer (some ⟨p,0,none⟩),.pointer (some ⟨p,39,none⟩),.pointer (some ⟨q1,0,none⟩),.bool false,undef,.pointer (some ⟨p,0,none⟩),.pointer (some ⟨p,0,none⟩),.pointer (some ⟨p,39,none⟩),.pointer (some ⟨q1,0,none⟩),.pointer (some ⟨q1,0,none⟩),.pointer (some ⟨q1,4,none⟩),.int .i64 N,.slice (some ⟨B+2,0,none⟩) 0 N,.pointer (some ⟨B+1,40,none⟩),.pointer (some ⟨p,0,none⟩),.func (.func 89) #[] #[.pointer (some ⟨Bt,0,none⟩)],.string x.1.nm,.pointer (some ⟨x.1.p,0,none⟩),.pointer (some ⟨x.1.p,0,none⟩),.agg c2,.string x.1.nm,.pointer (some ⟨D,0,none⟩),.pointer (some ⟨B+1,40,none⟩),.slice ao n0 uc,undef,.int .i64 n0,undef,undef,undef,undef,undef],defers:=[] } (Wd):=by
     clear b0_1_2_4
     subst hops
     refine wpAnyIn_ready (rs:=[2,4]) (by kernel_rfl) (by simp) ?_
     exact (valueR 2 41 (.agg cn) (Wd) rfl rfl (by kernel_rfl) (by intro c h;cases h) (jH _ rfl D 0 rfl cn HCS.out.1 (HVD.out _ (G.refl _)).lies) (by try simp only [Act.put,sA,sB,sC];exact b0_1_2_3) (valueR 4 43 (.slice (some ⟨D+1,0,none⟩) 1 1) (Wd.alloc (.cells z30 30)) rfl rfl (by kernel_rfl) (by intro c h;cases h) (js _ rfl z30 rfl jU Wd (D+1) HWS.out) (by try simp only [Act.put,sA,sB,sC];exact b0_1_3_4) AllReadyIn.nil))
    have b0_1_4:wpAnyIn (Fence.wide.inRound l) (3-1-1) Tryz.prog .any ops Q 7 #[true,true,false,false,true,false,false,false,false,false] { tmps:=#[.pointer (some ⟨p,0,none⟩),undef,.pointer (some ⟨B,0,none⟩),.pointer (some ⟨B+1,0,none⟩),.string x.1.nm,.pointer (some ⟨x.1.p,0,none⟩),.pointer (some ⟨D,0,none⟩),.pointer (some ⟨p,0,none⟩),.pointer (some ⟨p,0,none⟩),.pointer (some ⟨p,0,none⟩),.agg X,.pointer (some ⟨p,0,none⟩),.pointer (some ⟨p,0,none⟩),.pointer (some ⟨p,35,none⟩),.agg M,.agg CN,.pointer (some ⟨p,0,none⟩),.pointer (some ⟨p,0,none⟩),.pointer (some ⟨p,39,none⟩),.pointer (some ⟨q1,0,none⟩),.bool false,undef,.pointer (some ⟨p,0,none⟩),.pointer (some ⟨p,0,none⟩),.pointer (some ⟨p,39,none⟩),.pointer (some ⟨q1,0,none⟩),.pointer (some ⟨q1,0,none⟩),.pointer (some ⟨q1,4,none⟩),.int .i64 N,.slice (some ⟨B+2,0,none⟩) 0 N,.pointer (some ⟨B+1,40,none⟩),.pointer (some ⟨p,0,none⟩),.func (.func 89) #[] #[.pointer (some ⟨Bt,0,none⟩)],.string x.1.nm,.pointer (some ⟨x.1.p,0,none⟩),.pointer (some ⟨x.1.p,0,none⟩),.agg c2,.string x.1.nm,.pointer (some ⟨D,0,none⟩),.pointer (some ⟨B+1,40,none⟩),.slice ao n0 uc,undef,undef,.slice (some ⟨D+1,0,none⟩) 1 1,undef,undef,undef,undef],defers:=[] } (Wd.alloc (.cells z30 30)):=by
     clear b0_1_2_3
     subst hops
     refine wpAnyIn_ready (rs:=[2,3]) (by kernel_rfl) (by simp) ?_
     exact (valueR 2 41 (.agg cn) (Wd.alloc (.cells z30 30)) rfl rfl (by kernel_rfl) (by intro c h;cases h) (jH _ rfl D 0 rfl cn HCS.out.1 (HVD.out _ (G.alloc _ _)).lies) (by try simp only [Act.put,sA,sB,sC];exact b0_1_2_4) (valueR 3 42 (.int .i64 n0) (Wd.alloc (.cells z30 30)) rfl rfl (by kernel_rfl) (by intro c h;cases h) (by go_simp) (by try simp only [Act.put,sA,sB,sC];exact b0_1_3_4) AllReadyIn.nil))
    have b0_2_4:wpAnyIn (Fence.wide.inRound l) (3-1-1) Tryz.prog .any ops Q 7 #[true,false,true,false,true,false,false,false,false,false] { tmps:=#[.pointer (some ⟨p,0,none⟩),undef,.pointer (some ⟨B,0,none⟩),.pointer (some ⟨B+1,0,none⟩),.string x.1.nm,.pointer (some ⟨x.1.p,0,none⟩),.pointer (some ⟨D,0,none⟩),.pointer (some ⟨p,0,none⟩),.pointer (some ⟨p,0,none⟩),.pointer (some ⟨p,0,none⟩),.agg X,.pointer (some ⟨p,0,none⟩),.pointer (some ⟨p,0,none⟩),.pointer (some ⟨p,35,none⟩),.agg M,.agg CN,.pointer (some ⟨p,0,none⟩),.pointer (some ⟨p,0,none⟩),.pointer (some ⟨p,39,none⟩),.pointer (some ⟨q1,0,none⟩),.bool false,undef,.pointer (some ⟨p,0,none⟩),.pointer (some ⟨p,0,none⟩),.pointer (some ⟨p,39,none⟩),.pointer (some ⟨q1,0,none⟩),.pointer (some ⟨q1,0,none⟩),.pointer (some ⟨q1,4,none⟩),.int .i64 N,.slice (some ⟨B+2,0,none⟩) 0 N,.pointer (some ⟨B+1,40,none⟩),.pointer (some ⟨p,0,none⟩),.func (.func 89) #[] #[.pointer (some ⟨Bt,0,none⟩)],.string x.1.nm,.pointer (some ⟨x.1.p,0,none⟩),.pointer (some ⟨x.1.p,0,none⟩),.agg c2,.string x.1.nm,.pointer (some ⟨D,0,none⟩),.pointer (some ⟨B+1,40,none⟩),undef,.agg cn,undef,.slice (some ⟨D+1,0,none⟩) 1 1,undef,undef,undef,undef],defers:=[] } (Wd.alloc (.cells z30 30)):=by
     clear b0_1_2_3 b0_1_3_4
     subst hops
     refine wpAnyIn_ready (rs:=[1]) (by kernel_rfl) (by simp) ?_
     exact (valueR 1 40 (.slice ao n0 uc) (Wd.alloc (.cells z30 30)) rfl rfl (by kernel_rfl) (by intro c h;cases h) (by have y:=HUC.out (Wd.alloc (.cells z30 30)) (G.alloc _ _);generalize Wd.alloc (.cells z30 30)=WX at y ⊢;go_simp) (by try simp only [Act.put,sA,sB,sC];exact b0_1_2_4) AllReadyIn.nil)
    have b0_1:wpAnyIn (Fence.wide.inRound l) (3-1-1) Tryz.prog .any ops Q 8 #[true,true,false,false,false,false,false,false,false,false] { tmps:=#[.pointer (some ⟨p,0,none⟩),undef,.pointer (some ⟨B,0,none⟩),.pointer (some ⟨B+1,0,none⟩),.string x.1.nm,.pointer (some ⟨x.1.p,0,none⟩),.pointer (some ⟨D,0,none⟩),.pointer (some ⟨p,0,none⟩),.pointer (some ⟨p,0,none⟩),.pointer (some ⟨p,0,none⟩),.agg X,.pointer (some ⟨p,0,none⟩),.pointer (some ⟨p,0,none⟩),.pointer (some ⟨p,35,none⟩),.agg M,.agg CN,.pointer (some ⟨p,0,none⟩),.pointer (some ⟨p,0,none⟩),.pointer (some ⟨p,39,none⟩),.pointer (some ⟨q1,0,none⟩),.bool false,undef,.pointer (some ⟨p,0,none⟩),.pointer (some ⟨p,0,none⟩),.pointer (some ⟨p,39,none⟩),.pointer (some ⟨q1,0,none⟩),.pointer (some ⟨q1,0,none⟩),.pointer (some ⟨q1,4,none⟩),.int .i64 N,.slice (some ⟨B+2,0,none⟩) 0 N,.pointer (some ⟨B+1,40,none⟩),.pointer (some ⟨p,0,none⟩),.func (.func 89) #[] #[.pointer (some ⟨Bt,0,none⟩)],.string x.1.nm,.pointer (some ⟨x.1.p,0,none⟩),.pointer (some ⟨x.1.p,0,none⟩),.agg c2,.string x.1.nm,.pointer (some ⟨D,0,none⟩),.pointer (some ⟨B+1,40,none⟩),.slice ao n0 uc,undef,undef,undef,undef,undef,undef,undef],defers:=[] } (Wd):=by
     clear b0_1_2_3 b0_1_2_4 b0_1_3_4 b0_2_4
     subst hops
     refine wpAnyIn_ready (rs:=[2,3,4]) (by kernel_rfl) (by simp) ?_
     exact (valueR 2 41 (.agg cn) (Wd) rfl rfl (by kernel_rfl) (by intro c h;cases h) (jH _ rfl D 0 rfl cn HCS.out.1 (HVD.out _ (G.refl _)).lies) (by try simp only [Act.put,sA,sB,sC];exact b0_1_2) (valueR 3 42 (.int .i64 n0) (Wd) rfl rfl (by kernel_rfl) (by intro c h;cases h) (by go_simp) (by try simp only [Act.put,sA,sB,sC];exact b0_1_3) (valueR 4 43 (.slice (some ⟨D+1,0,none⟩) 1 1) (Wd.alloc (.cells z30 30)) rfl rfl (by kernel_rfl) (by intro c h;cases h) (js _ rfl z30 rfl jU Wd (D+1) HWS.out) (by try simp only [Act.put,sA,sB,sC];exact b0_1_4) AllReadyIn.nil)))
    have b0_2:wpAnyIn (Fence.wide.inRound l) (3-1-1) Tryz.prog .any ops Q 8 #[true,false,true,false,false,false,false,false,false,false] { tmps:=#[.pointer (some ⟨p,0,none⟩),undef,.pointer (some ⟨B,0,none⟩),.pointer (some ⟨B+1,0,none⟩),.string x.1.nm,.pointer (some ⟨x.1.p,0,none⟩),.pointer (some ⟨D,0,none⟩),.pointer (some ⟨p,0,none⟩),.pointer (some ⟨p,0,none⟩),.pointer (some ⟨p,0,none⟩),.agg X,.pointer (some ⟨p,0,none⟩),.pointer (some ⟨p,0,none⟩),.pointer (some ⟨p,35,none⟩),.agg M,.agg CN,.pointer (some ⟨p,0,none⟩),.pointer (some ⟨p,0,none⟩),.pointer (some ⟨p,39,none⟩),.pointer (some ⟨q1,0,none⟩),.bool false,undef,.pointer (some ⟨p,0,none⟩),.pointer (some ⟨p,0,none⟩),.pointer (some ⟨p,39,none⟩),.pointer (some ⟨q1,0,none⟩),.pointer (some ⟨q1,0,none⟩),.pointer (some ⟨q1,4,none⟩),.int .i64 N,.slice (some ⟨B+2,0,none⟩) 0 N,.pointer (some ⟨B+1,40,none⟩),.pointer (some ⟨p,0,none⟩),.func (.func 89) #[] #[.pointer (some ⟨Bt,0,none⟩)],.string x.1.nm,.pointer (some ⟨x.1.p,0,none⟩),.pointer (some ⟨x.1.p,0,none⟩),.agg c2,.string x.1.nm,.pointer (some ⟨D,0,none⟩),.pointer (some ⟨B+1,40,none⟩),undef,.agg cn,undef,undef,undef,undef,undef,undef],defers:=[] } (Wd):=by
     clear b0_1_2_3 b0_1_2_4 b0_1_3_4 b0_1_3 b0_1_4
     subst hops
     refine wpAnyIn_ready (rs:=[1,4]) (by kernel_rfl) (by simp) ?_
     exact (valueR 1 40 (.slice ao n0 uc) (Wd) rfl rfl (by kernel_rfl) (by intro c h;cases h) (by have y:=HUC.out _ (G.refl _);go_simp) (by try simp only [Act.put,sA,sB,sC];exact b0_1_2) (valueR 4 43 (.slice (some ⟨D+1,0,none⟩) 1 1) (Wd.alloc (.cells z30 30)) rfl rfl (by kernel_rfl) (by intro c h;cases h) (js _ rfl z30 rfl jU Wd (D+1) HWS.out) (by try simp only [Act.put,sA,sB,sC];exact b0_2_4) AllReadyIn.nil))
    have b0_4:wpAnyIn (Fence.wide.inRound l) (3-1-1) Tryz.prog .any ops Q 8 #[true,false,false,false,true,false,false,false,false,false] { tmps:=#[.pointer (some ⟨p,0,none⟩),undef,.pointer (some ⟨B,0,none⟩),.pointer (some ⟨B+1,0,none⟩),.string x.1.nm,.pointer (some ⟨x.1.p,0,none⟩),.pointer (some ⟨D,0,none⟩),.pointer (some ⟨p,0,none⟩),.pointer (some ⟨p,0,none⟩),.pointer (some ⟨p,0,none⟩),.agg X,.pointer (some ⟨p,0,none⟩),.pointer (some ⟨p,0,none⟩),.pointer (some ⟨p,35,none⟩),.agg M,.agg CN,.pointer (some ⟨p,0,none⟩),.pointer (some ⟨p,0,none⟩),.pointer (some ⟨p,39,none⟩),.pointer (some ⟨q1,0,none⟩),.bool false,undef,.pointer (some ⟨p,0,none⟩),.pointer (some ⟨p,0,none⟩),.pointer (some ⟨p,39,none⟩),.pointer (some ⟨q1,0,none⟩),.pointer (some ⟨q1,0,none⟩),.pointer (some ⟨q1,4,none⟩),.int .i64 N,.slice (some ⟨B+2,0,none⟩) 0 N,.pointer (some ⟨B+1,40,none⟩),.pointer (some ⟨p,0,none⟩),.func (.func 89) #[] #[.pointer (some ⟨Bt,0,none⟩)],.string x.1.nm,.pointer (some ⟨x.1.p,0,none⟩),.pointer (some ⟨x.1.p,0,none⟩),.agg c2,.string x.1.nm,.pointer (some ⟨D,0,none⟩),.pointer (some ⟨B+1,40,none⟩),undef,undef,undef,.slice (some ⟨D+1,0,none⟩) 1 1,undef,undef,undef,undef],defers:=[] } (Wd.alloc (.cells z30 30)):=by
     clear b0_1_2_3 b0_1_2_4 b0_1_3_4 b0_1_2 b0_1_3
     subst hops
     refine wpAnyIn_ready (rs:=[1,2]) (by kernel_rfl) (by simp) ?_
     exact (valueR 1 40 (.slice ao n0 uc) (Wd.alloc (.cells z30 30)) rfl rfl (by kernel_rfl) (by intro c h;cases h) (by have y:=HUC.out (Wd.alloc (.cells z30 30)) (G.alloc _ _);generalize Wd.alloc (.cells z30 30)=WX at y ⊢;go_simp) (by try simp only [Act.put,sA,sB,sC];exact b0_1_4) (valueR 2 41 (.agg cn) (Wd.alloc (.cells z30 30)) rfl rfl (by kernel_rfl) (by intro c h;cases h) (jH _ rfl D 0 rfl cn HCS.out.1 (HVD.out _ (G.alloc _ _)).lies) (by try simp only [Act.put,sA,sB,sC];exact b0_2_4) AllReadyIn.nil))
    have b2_4:wpAnyIn (Fence.wide.inRound l) (3-1-1) Tryz.prog .any ops Q 8 #[false,false,true,false,true,false,false,false,false,false] { tmps:=#[.pointer (some ⟨p,0,none⟩),undef,.pointer (some ⟨B,0,none⟩),.pointer (some ⟨B+1,0,none⟩),.string x.1.nm,.pointer (some ⟨x.1.p,0,none⟩),.pointer (some ⟨D,0,none⟩),.pointer (some ⟨p,0,none⟩),.pointer (some ⟨p,0,none⟩),.pointer (some ⟨p,0,none⟩),.agg X,.pointer (some ⟨p,0,none⟩),.pointer (some ⟨p,0,none⟩),.pointer (some ⟨p,35,none⟩),.agg M,.agg CN,.pointer (some ⟨p,0,none⟩),.pointer (some ⟨p,0,none⟩),.pointer (some ⟨p,39,none⟩),.pointer (some ⟨q1,0,none⟩),.bool false,undef,.pointer (some ⟨p,0,none⟩),.pointer (some ⟨p,0,none⟩),.pointer (some ⟨p,39,none⟩),.pointer (some ⟨q1,0,none⟩),.pointer (some ⟨q1,0,none⟩),.pointer (some ⟨q1,4,none⟩),.int .i64 N,.slice (some ⟨B+2,0,none⟩) 0 N,.pointer (some ⟨B+1,40,none⟩),.pointer (some ⟨p,0,none⟩),.func (.func 89) #[] #[.pointer (some ⟨Bt,0,none⟩)],.string x.1.nm,.pointer (some ⟨x.1.p,0,none⟩),.pointer (some ⟨x.1.p,0,none⟩),.agg c2,.string x.1.nm,.pointer (some ⟨D,0,none⟩),undef,undef,.agg cn,undef,.slice (some ⟨D+1,0,none⟩) 1 1,undef,undef,undef,undef],defers:=[] } (Wd.alloc (.cells z30 30)):=by
     clear b0_1_2_3 b0_1_2_4 b0_1_3_4 b0_1_2 b0_1_3 b0_1_4
     subst hops
     refine wpAnyIn_ready (rs:=[0]) (by kernel_rfl) (by simp) ?_
     exact (valueR 0 39 (.pointer (some ⟨B+1,40,none⟩)) (Wd.alloc (.cells z30 30)) rfl rfl (by kernel_rfl) (by intro c h;cases h) (by go_simp) (by try simp only [Act.put,sA,sB,sC];exact b0_2_4) AllReadyIn.nil)
    have b0:wpAnyIn (Fence.wide.inRound l) (3-1-1) Tryz.prog .any ops Q 9 #[true,false,false,false,false,false,false,false,false,false] { tmps:=#[.pointer (some ⟨p,0,none⟩),undef,.pointer (some ⟨B,0,none⟩),.pointer (some ⟨B+1,0,none⟩),.string x.1.nm,.pointer (some ⟨x.1.p,0,none⟩),.pointer (some ⟨D,0,none⟩),.pointer (some ⟨p,0,none⟩),.pointer (some ⟨p,0,none⟩),.pointer (some ⟨p,0,none⟩),.agg X,.pointer (some ⟨p,0,none⟩),.pointer (some ⟨p,0,none⟩),.pointer (some ⟨p,35,none⟩),.agg M,.agg CN,.pointer (some ⟨p,0,none⟩),.pointer (some ⟨p,0,none⟩),.pointer (some ⟨p,39,none⟩),.pointer (some ⟨q1,0,none⟩),.bool false,undef,.pointer (some ⟨p,0,none⟩),.pointer (some ⟨p,0,none⟩),.pointer (some ⟨p,39,none⟩),.pointer (some ⟨q1,0,none⟩),.pointer (some ⟨q1,0,none⟩),.pointer (some ⟨q1,4,none⟩),.int .i64 N,.slice (some ⟨B+2,0,none⟩) 0 N,.pointer (some ⟨B+1,40,none⟩),.pointer (some ⟨p,0,none⟩),.func (.func 89) #[] #[.pointer (some ⟨Bt,0,none⟩)],.string x.1.nm,.pointer (some ⟨x.1.p,0,none⟩),.pointer (some ⟨x.1.p,0,none⟩),.agg c2,.string x.1.nm,.pointer (some ⟨D,0,none⟩),.pointer (some ⟨B+1,40,none⟩),undef,undef,undef,undef,undef,undef,undef,undef],defers:=[] } (Wd):=by
     clear b0_1_2_3 b0_1_2_4 b0_1_3_4 b0_1_2 b0_1_3 b0_1_4 b0_2_4 b2_4
     subst hops
     refine wpAnyIn_ready (rs:=[1,2,4]) (by kernel_rfl) (by simp) ?_
     exact (valueR 1 40 (.slice ao n0 uc) (Wd) rfl rfl (by kernel_rfl) (by intro c h;cases h) (by have y:=HUC.out _ (G.refl _);go_simp) (by try simp only [Act.put,sA,sB,sC];exact b0_1) (valueR 2 41 (.agg cn) (Wd) rfl rfl (by kernel_rfl) (by intro c h;cases h) (jH _ rfl D 0 rfl cn HCS.out.1 (HVD.out _ (G.refl _)).lies) (by try simp only [Act.put,sA,sB,sC];exact b0_2) (valueR 4 43 (.slice (some ⟨D+1,0,none⟩) 1 1) (Wd.alloc (.cells z30 30)) rfl rfl (by kernel_rfl) (by intro c h;cases h) (js _ rfl z30 rfl jU Wd (D+1) HWS.out) (by try simp only [Act.put,sA,sB,sC];exact b0_4) AllReadyIn.nil)))
    have b2:wpAnyIn (Fence.wide.inRound l) (3-1-1) Tryz.prog .any ops Q 9 #[false,false,true,false,false,false,false,false,false,false] { tmps:=#[.pointer (some ⟨p,0,none⟩),undef,.pointer (some ⟨B,0,none⟩),.pointer (some ⟨B+1,0,none⟩),.string x.1.nm,.pointer (some ⟨x.1.p,0,none⟩),.pointer (some ⟨D,0,none⟩),.pointer (some ⟨p,0,none⟩),.pointer (some ⟨p,0,none⟩),.pointer (some ⟨p,0,none⟩),.agg X,.pointer (some ⟨p,0,none⟩),.pointer (some ⟨p,0,none⟩),.pointer (some ⟨p,35,none⟩),.agg M,.agg CN,.pointer (some ⟨p,0,none⟩),.pointer (some ⟨p,0,none⟩),.pointer (some ⟨p,39,none⟩),.pointer (some ⟨q1,0,none⟩),.bool false,undef,.pointer (some ⟨p,0,none⟩),.pointer (some ⟨p,0,none⟩),.pointer (some ⟨p,39,none⟩),.pointer (some ⟨q1,0,none⟩),.pointer (some ⟨q1,0,none⟩),.pointer (some ⟨q1,4,none⟩),.int .i64 N,.slice (some ⟨B+2,0,none⟩) 0 N,.pointer (some ⟨B+1,40,none⟩),.pointer (some ⟨p,0,none⟩),.func (.func 89) #[] #[.pointer (some ⟨Bt,0,none⟩)],.string x.1.nm,.pointer (some ⟨x.1.p,0,none⟩),.pointer (some ⟨x.1.p,0,none⟩),.agg c2,.string x.1.nm,.pointer (some ⟨D,0,none⟩),undef,undef,.agg cn,undef,undef,undef,undef,undef,undef],defers:=[] } (Wd):=by
     clear b0_1_2_3 b0_1_2_4 b0_1_3_4 b0_1_2 b0_1_3 b0_1_4 b0_2_4 b0_1 b0_4
     subst hops
     refine wpAnyIn_ready (rs:=[0,4]) (by kernel_rfl) (by simp) ?_
     exact (valueR 0 39 (.pointer (some ⟨B+1,40,none⟩)) (Wd) rfl rfl (by kernel_rfl) (by intro c h;cases h) (by go_simp) (by try simp only [Act.put,sA,sB,sC];exact b0_2) (valueR 4 43 (.slice (some ⟨D+1,0,none⟩) 1 1) (Wd.alloc (.cells z30 30)) rfl rfl (by kernel_rfl) (by intro c h;cases h) (js _ rfl z30 rfl jU Wd (D+1) HWS.out) (by try simp only [Act.put,sA,sB,sC];exact b2_4) AllReadyIn.nil))
    have b4:wpAnyIn (Fence.wide.inRound l) (3-1-1) Tryz.prog .any ops Q 9 #[false,false,false,false,true,false,false,false,false,false] { tmps:=#[.pointer (some ⟨p,0,none⟩),undef,.pointer (some ⟨B,0,none⟩),.pointer (some ⟨B+1,0,none⟩),.string x.1.nm,.pointer (some ⟨x.1.p,0,none⟩),.pointer (some ⟨D,0,none⟩),.pointer (some ⟨p,0,none⟩),.pointer (some ⟨p,0,none⟩),.pointer (some ⟨p,0,none⟩),.agg X,.pointer (some ⟨p,0,none⟩),.pointer (some ⟨p,0,none⟩),.pointer (some ⟨p,35,none⟩),.agg M,.agg CN,.pointer (some ⟨p,0,none⟩),.pointer (some ⟨p,0,none⟩),.pointer (some ⟨p,39,none⟩),.pointer (some ⟨q1,0,none⟩),.bool false,undef,.pointer (some ⟨p,0,none⟩),.pointer (some ⟨p,0,none⟩),.pointer (some ⟨p,39,none⟩),.pointer (some ⟨q1,0,none⟩),.pointer (some ⟨q1,0,none⟩),.pointer (some ⟨q1,4,none⟩),.int .i64 N,.slice (some ⟨B+2,0,none⟩) 0 N,.pointer (some ⟨B+1,40,none⟩),.pointer (some ⟨p,0,none⟩),.func (.func 89) #[] #[.pointer (some ⟨Bt,0,none⟩)],.string x.1.nm,.pointer (some ⟨x.1.p,0,none⟩),.pointer (some ⟨x.1.p,0,none⟩),.agg c2,.string x.1.nm,.pointer (some ⟨D,0,none⟩),undef,undef,undef,undef,.slice (some ⟨D+1,0,none⟩) 1 1,undef,undef,undef,undef],defers:=[] } (Wd.alloc (.cells z30 30)):=by
     clear b0_1_2_3 b0_1_2_4 b0_1_3_4 b0_1_2 b0_1_3 b0_1_4 b0_2_4 b0_1 b0_2
     subst hops
     refine wpAnyIn_ready (rs:=[0,2]) (by kernel_rfl) (by simp) ?_
     exact (valueR 0 39 (.pointer (some ⟨B+1,40,none⟩)) (Wd.alloc (.cells z30 30)) rfl rfl (by kernel_rfl) (by intro c h;cases h) (by go_simp) (by try simp only [Act.put,sA,sB,sC];exact b0_4) (valueR 2 41 (.agg cn) (Wd.alloc (.cells z30 30)) rfl rfl (by kernel_rfl) (by intro c h;cases h) (jH _ rfl D 0 rfl cn HCS.out.1 (HVD.out _ (G.alloc _ _)).lies) (by try simp only [Act.put,sA,sB,sC];exact b2_4) AllReadyIn.nil))
    have bz:wpAnyIn (Fence.wide.inRound l) (3-1-1) Tryz.prog .any ops Q 10 #[false,false,false,false,false,false,false,false,false,false] { tmps:=#[.pointer (some ⟨p,0,none⟩),undef,.pointer (some ⟨B,0,none⟩),.pointer (some ⟨B+1,0,none⟩),.string x.1.nm,.pointer (some ⟨x.1.p,0,none⟩),.pointer (some ⟨D,0,none⟩),.pointer (some ⟨p,0,none⟩),.pointer (some ⟨p,0,none⟩),.pointer (some ⟨p,0,none⟩),.agg X,.pointer (some ⟨p,0,none⟩),.pointer (some ⟨p,0,none⟩),.pointer (some ⟨p,35,none⟩),.agg M,.agg CN,.pointer (some ⟨p,0,none⟩),.pointer (some ⟨p,0,none⟩),.pointer (some ⟨p,39,none⟩),.pointer (some ⟨q1,0,none⟩),.bool false,undef,.pointer (some ⟨p,0,none⟩),.pointer (some ⟨p,0,none⟩),.pointer (some ⟨p,39,none⟩),.pointer (some ⟨q1,0,none⟩),.pointer (some ⟨q1,0,none⟩),.pointer (some ⟨q1,4,none⟩),.int .i64 N,.slice (some ⟨B+2,0,none⟩) 0 N,.pointer (some ⟨B+1,40,none⟩),.pointer (some ⟨p,0,none⟩),.func (.func 89) #[] #[.pointer (some ⟨Bt,0,none⟩)],.string x.1.nm,.pointer (some ⟨x.1.p,0,none⟩),.pointer (some ⟨x.1.p,0,none⟩),.agg c2,.string x.1.nm,.pointer (some ⟨D,0,none⟩),undef,undef,undef,undef,undef,undef,undef,undef,undef],defers:=[] } (Wd):=by
     clear b0_1_2_3 b0_1_2_4 b0_1_3_4 b0_1_2 b0_1_3 b0_1_4 b0_2_4 b0_1 b0_2 b0_4 b2_4
     subst hops
     refine wpAnyIn_ready (rs:=[0,2,4]) (by kernel_rfl) (by simp) ?_
     exact (valueR 0 39 (.pointer (some ⟨B+1,40,none⟩)) (Wd) rfl rfl (by kernel_rfl) (by intro c h;cases h) (by go_simp) (by try simp only [Act.put,sA,sB,sC];exact b0) (valueR 2 41 (.agg cn) (Wd) rfl rfl (by kernel_rfl) (by intro c h;cases h) (jH _ rfl D 0 rfl cn HCS.out.1 (HVD.out _ (G.refl _)).lies) (by try simp only [Act.put,sA,sB,sC];exact b2) (valueR 4 43 (.slice (some ⟨D+1,0,none⟩) 1 1) (Wd.alloc (.cells z30 30)) rfl rfl (by kernel_rfl) (by intro c h;cases h) (js _ rfl z30 rfl jU Wd (D+1) HWS.out) (by try simp only [Act.put,sA,sB,sC];exact b4) AllReadyIn.nil)))
    subst hops
    exact bz
   case done=>
    rintro D ys W hD hys ⟨u,xs,T,h1,h2,h3,h4,h6,h7⟩ hK
    have hys1:kids ys=k.items:=hys
    have hys2:kidsF (kids ys)=k.flat:=by rw [hys1,kidsF_items]
    have hlen:ys.length=k.flat.len:=by rw [← K.items_len,← hys1];simp
    rw [hys2] at h6
    rw [hlen] at h4
    obtain ⟨cu,hcu⟩:∃ cu,cu=nc ⟨#[]⟩ v m u:=⟨_,rfl⟩
    rw [← hcu] at h3
    have HCU:Hid (cu.size=41∧cu.all (·.oneCell')=true):=by
     obtain ⟨ao,uc,hu⟩:=owns_form h4
     rw [hcu,hu]
     exact ⟨jZ ..,nc_one _ _ _ _ rfl⟩
    have hne:B≠D:=fun e=>by
     rw [e] at h2
     have:=(show W.heap[D]?=some (.cells z30 30 (0,0)) from h2).symm.trans hK
     cases this
    have HF:=hid (And.intro h1 (And.intro h4 (And.intro h6 (And.intro h7 (And.intro hK hcu)))))
    have HV2:=hid (And.intro h2 h3)
    clear h1 h2 h3 h4 h6 h7 hK hcu hys hys1 hys2 hlen hNI5 hc5 hpk hpk0 hn4
    gi_wp2_with (first
     | ((with_reducible refine jT (.agg cu) W ?_ ?_ ?_ ?_ ?_);rfl;exact jH _ rfl (B+1) 0 rfl cu HCU.out.1 HV2.out.2.lies;(intro c h;cases h);exact fun _ _=>trivial)
     | ((with_reducible refine wpListIn_skipW (W.setRow B cu) ?_ ?_ ?_ ?_ ?_);rfl;exact jX _ _ rfl B cu z30 rfl rfl _ HV2.out.1 HCU.out.1 jU HCU.out.2;(intro c h;cases h);exact fun _ _=>trivial))
    obtain ⟨h1,h4,h6,h7,hK,hcu⟩:=HF.out
    have hK4:(W.setRow B cu).heap[D]?=some (.deferred (some [])):=by rw [setRow_other _ _ _ _ (Ne.symm hne)];exact hK
    refine ⟨by simp,.inl ⟨_,_,rfl,run_takeDeferred hK4,?_⟩⟩
    have hR:((W.setRow B cu).putObj D (.deferred none)).heap[B]?=some (.cells cu 30 (0,0)):=by
     rw [World.putObj_heap_other hne];exact HV2.out.1.set
    have hoth:∀ b,b≠B→b≠D→((W.setRow B cu).putObj D (.deferred none)).heap[b]?=W.heap[b]?:=fun b h1 h2=>by
     rw [World.putObj_heap_other h2];exact setRow_other _ _ _ _ h1
    have hsp:HasSP W (fun b=>B+2≤b∧∃ o:Obj,W.heap[b]?=some o∧o.isCells=true) u k.flat:=by
     refine RCells.slice (lo:=B+2) (h6.keep fun b hb=>⟨rfl,(h7 b hb).1,(h7 b hb).2.1⟩) h4 fun g hg=>⟨(World.ownsRow.lt h4 g hg).1,?_⟩
     obtain ⟨_,q | ⟨g',cap',cur,hv,_,hh,_⟩⟩:=h4
     ·rw [q.1] at hg;cases hg
     ·rw [hv] at hg
      obtain rfl:g'=g:=by simpa [Value.ownBlock] using hg
      exact ⟨_,hh,rfl⟩
    have hBw:=HB.out
    refine ⟨_,results_cell_row (P:=Tryz.prog) (p:=2) (ty:=30) rfl _ _ B 30 cu (0,0) _ rfl hR under30 rfl (by rw [size30,HCU.out.1]),cu,rfl,⟨u,hcu,?_⟩,?_⟩
    ·rw [hkk]
     refine hsp.keep fun b hb=>?_
     obtain ⟨h8,o,ho,hoc⟩:=hb
     have hbD:b≠D:=fun e=>by
      rw [e,hK] at ho
      cases ho
      cases hoc
     have e:=hoth b (by omega) hbD
     exact ⟨e,by omega,o,e.trans ho,hoc⟩
    ·refine Below.trans (B:=w.heap.size) h1 ⟨rfl,rfl,rfl,by simp,fun b hb=>hoth b (by omega) ?_⟩
     have:=hs5
     omega
 have afull:wpAnyIn Fence.wide 3 Tryz.prog .any ops Q 1 #[true,true,true,true,true,true,true,true,true,true,false] { tmps:=#[.pointer (some ⟨p,0,none⟩),undef,.pointer (some ⟨B,0,none⟩),.pointer (some ⟨B+1,0,none⟩),undef,undef,undef,.pointer (some ⟨p,0,none⟩),.pointer (some ⟨p,0,none⟩),.pointer (some ⟨p,0,none⟩),.agg X,.pointer (some ⟨p,0,none⟩),.pointer (some ⟨p,0,none⟩),.pointer (some ⟨p,35,none⟩),.agg M,.agg CN,undef,undef,undef,undef,undef,undef,undef,undef,undef,undef,undef,undef,undef,undef,undef,undef,undef,undef,undef,undef,undef,undef,undef,undef,undef,undef,undef,undef,undef,undef,undef,undef],defers:=[] } (W1.alloc (.cells z30 30)):=by
  subst hops
  refine wpAnyIn_ready (rs:=[10]) (by kernel_rfl) (by simp) ?_
  have hnv:=new_var W1 CN
  rw [HB1.out] at hnv
  exact storeI 10 ((W1.alloc (.cells z30 30)).setRow (B+1) CN) rfl rfl (by kernel_rfl) (jX _ _ rfl (B+1) CN z30 rfl rfl _ (by have:=Var.new W1 z30;rw [HB1.out] at this;exact this) (by rw [HCN.out];exact jZ ..) jU (by rw [HCN.out];exact nc_one _ _ _ _ rfl)) (afin _ hnv) AllReadyIn.nil
 have a3_7_8:wpAnyIn (Fence.wide) 3 Tryz.prog .any ops Q 2 #[true,true,true,true,true,true,true,true,true,false,false] { tmps:=#[.pointer (some ⟨p,0,none⟩),undef,.pointer (some ⟨B,0,none⟩),undef,undef,undef,undef,.pointer (some ⟨p,0,none⟩),.pointer (some ⟨p,0,none⟩),.pointer (some ⟨p,0,none⟩),.agg X,.pointer (some ⟨p,0,none⟩),.pointer (some ⟨p,0,none⟩),.pointer (some ⟨p,35,none⟩),.agg M,.agg CN,undef,undef,undef,undef,undef,undef,undef,undef,undef,undef,undef,undef,undef,undef,undef,undef,undef,undef,undef,undef,undef,undef,undef,undef,undef,undef,undef,undef,undef,undef,undef,undef],defers:=[] } (W1):=by
  skip
  subst hops
  refine wpAnyIn_ready (rs:=[9]) (by kernel_rfl) (by simp) ?_
  exact (valueI 9 3 (.pointer (some ⟨B+1,0,none⟩)) (W1.alloc (.cells z30 30)) rfl rfl (by kernel_rfl) (jf rfl W1 (B+1) HB1.out) (by try simp only [Act.put,sA,sB,sC];exact afull) AllReadyIn.nil)
 have a3_7_9:wpAnyIn (Fence.wide) 3 Tryz.prog .any ops Q 2 #[true,true,true,true,true,true,true,true,false,true,false] { tmps:=#[.pointer (some ⟨p,0,none⟩),undef,.pointer (some ⟨B,0,none⟩),.pointer (some ⟨B+1,0,none⟩),undef,undef,undef,.pointer (some ⟨p,0,none⟩),.pointer (some ⟨p,0,none⟩),.pointer (some ⟨p,0,none⟩),.agg X,.pointer (some ⟨p,0,none⟩),.pointer (some ⟨p,0,none⟩),.pointer (some ⟨p,35,none⟩),.agg M,undef,undef,undef,undef,undef,undef,undef,undef,undef,undef,undef,undef,undef,undef,undef,undef,undef,undef,undef,undef,undef,undef,undef,undef,undef,undef,undef,undef,undef,undef,undef,undef,undef],defers:=[] } (W1.alloc (.cells z30 30)):=by
  skip
  subst hops
  refine wpAnyIn_ready (rs:=[8]) (by kernel_rfl) (by simp) ?_
  exact (valueI 8 15 (.agg CN) (W1.alloc (.cells z30 30)) rfl rfl (by kernel_rfl) ((by rw [HCN.out];exact exec_build30 _ rfl v m (by rw [← HCX.out.1,← HCX.out.2];go_simp) _)) (by try simp only [Act.put,sA,sB,sC];exact afull) AllReadyIn.nil)
 have a3_7:wpAnyIn (Fence.wide) 3 Tryz.prog .any ops Q 3 #[true,true,true,true,true,true,true,true,false,false,false] { tmps:=#[.pointer (some ⟨p,0,none⟩),undef,.pointer (some ⟨B,0,none⟩),undef,undef,undef,undef,.pointer (some ⟨p,0,none⟩),.pointer (some ⟨p,0,none⟩),.pointer (some ⟨p,0,none⟩),.agg X,.pointer (some ⟨p,0,none⟩),.pointer (some ⟨p,0,none⟩),.pointer (some ⟨p,35,none⟩),.agg M,undef,undef,undef,undef,undef,undef,undef,undef,undef,undef,undef,undef,undef,undef,undef,undef,undef,undef,undef,undef,undef,undef,undef,undef,undef,undef,undef,undef,undef,undef,undef,undef,undef],defers:=[] } (W1):=by
  skip
  subst hops
  refine wpAnyIn_ready (rs:=[8,9]) (by kernel_rfl) (by simp) ?_
  exact (valueI 8 15 (.agg CN) (W1) rfl rfl (by kernel_rfl) ((by rw [HCN.out];exact exec_build30 _ rfl v m (by rw [← HCX.out.1,← HCX.out.2];go_simp) _)) (by try simp only [Act.put,sA,sB,sC];exact a3_7_8) (valueI 9 3 (.pointer (some ⟨B+1,0,none⟩)) (W1.alloc (.cells z30 30)) rfl rfl (by kernel_rfl) (jf rfl W1 (B+1) HB1.out) (by try simp only [Act.put,sA,sB,sC];exact a3_7_9) AllReadyIn.nil))
 have a3_9:wpAnyIn (Fence.wide) 3 Tryz.prog .any ops Q 3 #[true,true,true,true,true,true,true,false,false,true,false] { tmps:=#[.pointer (some ⟨p,0,none⟩),undef,.pointer (some ⟨B,0,none⟩),.pointer (some ⟨B+1,0,none⟩),undef,undef,undef,.pointer (some ⟨p,0,none⟩),.pointer (some ⟨p,0,none⟩),.pointer (some ⟨p,0,none⟩),.agg X,.pointer (some ⟨p,0,none⟩),.pointer (some ⟨p,0,none⟩),.pointer (some ⟨p,35,none⟩),undef,undef,undef,undef,undef,undef,undef,undef,undef,undef,undef,undef,undef,undef,undef,undef,undef,undef,undef,undef,undef,undef,undef,undef,undef,undef,undef,undef,undef,undef,undef,undef,undef,undef],defers:=[] } (W1.alloc (.cells z30 30)):=by
  clear a3_7_8
  subst hops
  refine wpAnyIn_ready (rs:=[7]) (by kernel_rfl) (by simp) ?_
  exact (valueI 7 14 (.agg M) (W1.alloc (.cells z30 30)) rfl rfl (by kernel_rfl) ((jO _ rfl p 35 rfl M HX.out.2 (HLX.out _ (G.alloc _ _)).2)) (by try simp only [Act.put,sA,sB,sC];exact a3_7_9) AllReadyIn.nil)
 have a7_9:wpAnyIn (Fence.wide) 3 Tryz.prog .any ops Q 3 #[true,true,true,false,true,true,true,true,false,true,false] { tmps:=#[.pointer (some ⟨p,0,none⟩),undef,.pointer (some ⟨B,0,none⟩),.pointer (some ⟨B+1,0,none⟩),undef,undef,undef,.pointer (some ⟨p,0,none⟩),.pointer (some ⟨p,0,none⟩),.pointer (some ⟨p,0,none⟩),undef,.pointer (some ⟨p,0,none⟩),.pointer (some ⟨p,0,none⟩),.pointer (some ⟨p,35,none⟩),.agg M,undef,undef,undef,undef,undef,undef,undef,undef,undef,undef,undef,undef,undef,undef,undef,undef,undef,undef,undef,undef,undef,undef,undef,undef,undef,undef,undef,undef,undef,undef,undef,undef,undef],defers:=[] } (W1.alloc (.cells z30 30)):=by
  clear a3_7_8
  subst hops
  refine wpAnyIn_ready (rs:=[3]) (by kernel_rfl) (by simp) ?_
  exact (valueI 3 10 (.agg X) (W1.alloc (.cells z30 30)) rfl rfl (by kernel_rfl) ((jE _ rfl p 0 rfl X HX.out.1 (HLX.out _ (G.alloc _ _)).1)) (by try simp only [Act.put,sA,sB,sC];exact a3_7_9) AllReadyIn.nil)
 have a3:wpAnyIn (Fence.wide) 3 Tryz.prog .any ops Q 4 #[true,true,true,true,true,true,true,false,false,false,false] { tmps:=#[.pointer (some ⟨p,0,none⟩),undef,.pointer (some ⟨B,0,none⟩),undef,undef,undef,undef,.pointer (some ⟨p,0,none⟩),.pointer (some ⟨p,0,none⟩),.pointer (some ⟨p,0,none⟩),.agg X,.pointer (some ⟨p,0,none⟩),.pointer (some ⟨p,0,none⟩),.pointer (some ⟨p,35,none⟩),undef,undef,undef,undef,undef,undef,undef,undef,undef,undef,undef,undef,undef,undef,undef,undef,undef,undef,undef,undef,undef,undef,undef,undef,undef,undef,undef,undef,undef,undef,undef,undef,undef,undef],defers:=[] } (W1):=by
  clear a3_7_8 a3_7_9 a7_9
  subst hops
  refine wpAnyIn_ready (rs:=[7,9]) (by kernel_rfl) (by simp) ?_
  exact (valueI 7 14 (.agg M) (W1) rfl rfl (by kernel_rfl) ((jO _ rfl p 35 rfl M HX.out.2 (HLX.out _ (G.refl _)).2)) (by try simp only [Act.put,sA,sB,sC];exact a3_7) (valueI 9 3 (.pointer (some ⟨B+1,0,none⟩)) (W1.alloc (.cells z30 30)) rfl rfl (by kernel_rfl) (jf rfl W1 (B+1) HB1.out) (by try simp only [Act.put,sA,sB,sC];exact a3_9) AllReadyIn.nil))
 have a7:wpAnyIn (Fence.wide) 3 Tryz.prog .any ops Q 4 #[true,true,true,false,true,true,true,true,false,false,false] { tmps:=#[.pointer (some ⟨p,0,none⟩),undef,.pointer (some ⟨B,0,none⟩),undef,undef,undef,undef,.pointer (some ⟨p,0,none⟩),.pointer (some ⟨p,0,none⟩),.pointer (some ⟨p,0,none⟩),undef,.pointer (some ⟨p,0,none⟩),.pointer (some ⟨p,0,none⟩),.pointer (some ⟨p,35,none⟩),.agg M,undef,undef,undef,undef,undef,undef,undef,undef,undef,undef,undef,undef,undef,undef,undef,undef,undef,undef,undef,undef,undef,undef,undef,undef,undef,undef,undef,undef,undef,undef,undef,undef,undef],defers:=[] } (W1):=by
  clear a3_7_8 a3_7_9 a3_9
  subst hops
  refine wpAnyIn_ready (rs:=[3,9]) (by kernel_rfl) (by simp) ?_
  exact (valueI 3 10 (.agg X) (W1) rfl rfl (by kernel_rfl) ((jE _ rfl p 0 rfl X HX.out.1 (HLX.out _ (G.refl _)).1)) (by try simp only [Act.put,sA,sB,sC];exact a3_7) (valueI 9 3 (.pointer (some ⟨B+1,0,none⟩)) (W1.alloc (.cells z30 30)) rfl rfl (by kernel_rfl) (jf rfl W1 (B+1) HB1.out) (by try simp only [Act.put,sA,sB,sC];exact a7_9) AllReadyIn.nil))
 have a9:wpAnyIn (Fence.wide) 3 Tryz.prog .any ops Q 4 #[true,true,true,false,true,true,true,false,false,true,false] { tmps:=#[.pointer (some ⟨p,0,none⟩),undef,.pointer (some ⟨B,0,none⟩),.pointer (some ⟨B+1,0,none⟩),undef,undef,undef,.pointer (some ⟨p,0,none⟩),.pointer (some ⟨p,0,none⟩),.pointer (some ⟨p,0,none⟩),undef,.pointer (some ⟨p,0,none⟩),.pointer (some ⟨p,0,none⟩),.pointer (some ⟨p,35,none⟩),undef,undef,undef,undef,undef,undef,undef,undef,undef,undef,undef,undef,undef,undef,undef,undef,undef,undef,undef,undef,undef,undef,undef,undef,undef,undef,undef,undef,undef,undef,undef,undef,undef,undef],defers:=[] } (W1.alloc (.cells z30 30)):=by
  clear a3_7_8 a3_7_9 a3_7
  subst hops
  refine wpAnyIn_ready (rs:=[3,7]) (by kernel_rfl) (by simp) ?_
  exact (valueI 3 10 (.agg X) (W1.alloc (.cells z30 30)) rfl rfl (by kernel_rfl) ((jE _ rfl p 0 rfl X HX.out.1 (HLX.out _ (G.alloc _ _)).1)) (by try simp only [Act.put,sA,sB,sC];exact a3_9) (valueI 7 14 (.agg M) (W1.alloc (.cells z30 30)) rfl rfl (by kernel_rfl) ((jO _ rfl p 35 rfl M HX.out.2 (HLX.out _ (G.alloc _ _)).2)) (by try simp only [Act.put,sA,sB,sC];exact a7_9) AllReadyIn.nil))
 have az:wpAnyIn (Fence.wide) 3 Tryz.prog .any ops Q 5 #[true,true,true,false,true,true,true,false,false,false,false] { tmps:=#[.pointer (some ⟨p,0,none⟩),undef,.pointer (some ⟨B,0,none⟩),undef,undef,undef,undef,.pointer (some ⟨p,0,none⟩),.pointer (some ⟨p,0,none⟩),.pointer (some ⟨p,0,none⟩),undef,.pointer (some ⟨p,0,none⟩),.pointer (some ⟨p,0,none⟩),.pointer (some ⟨p,35,none⟩),undef,undef,undef,undef,undef,undef,undef,undef,undef,undef,undef,undef,undef,undef,undef,undef,undef,undef,undef,undef,undef,undef,undef,undef,undef,undef,undef,undef,undef,undef,undef,undef,undef,undef],defers:=[] } (W1):=by
  clear a3_7_8 a3_7_9 a3_7 a3_9 a7_9
  subst hops
  refine wpAnyIn_ready (rs:=[3,7,9]) (by kernel_rfl) (by simp) ?_
  exact (valueI 3 10 (.agg X) (W1) rfl rfl (by kernel_rfl) ((jE _ rfl p 0 rfl X HX.out.1 (HLX.out _ (G.refl _)).1)) (by try simp only [Act.put,sA,sB,sC];exact a3) (valueI 7 14 (.agg M) (W1) rfl rfl (by kernel_rfl) ((jO _ rfl p 35 rfl M HX.out.2 (HLX.out _ (G.refl _)).2)) (by try simp only [Act.put,sA,sB,sC];exact a7) (valueI 9 3 (.pointer (some ⟨B+1,0,none⟩)) (W1.alloc (.cells z30 30)) rfl rfl (by kernel_rfl) (jf rfl W1 (B+1) HB1.out) (by try simp only [Act.put,sA,sB,sC];exact a9) AllReadyIn.nil)))
 subst hops
 subst hQ
 refine takeI 0 7 (.pointer (some ⟨p,0,none⟩)) rfl rfl (by kernel_rfl) (by kernel_rfl) (by kernel_rfl) (fun _ _ _ h=>h) (by kernel_rfl) (fun _=>rfl) (fun wz=>?_) ?_
 ·rfl
 try simp only [Act.put,sA,sB,sC]
 refine takeI 1 8 (.pointer (some ⟨p,0,none⟩)) rfl rfl (by kernel_rfl) (by kernel_rfl) (by kernel_rfl) (fun _ _ _ h=>h) (by kernel_rfl) (fun _=>rfl) (fun wz=>?_) ?_
 ·go_simp
 try simp only [Act.put,sA,sB,sC]
 refine takeI 2 9 (.pointer (some ⟨p,0,none⟩)) rfl rfl (by kernel_rfl) (by kernel_rfl) (by kernel_rfl) (fun _ _ _ h=>h) (by kernel_rfl) (fun _=>rfl) (fun wz=>?_) ?_
 ·go_simp
 try simp only [Act.put,sA,sB,sC]
 refine takeI 4 11 (.pointer (some ⟨p,0,none⟩)) rfl rfl (by kernel_rfl) (by kernel_rfl) (by kernel_rfl) (fun _ _ _ h=>h) (by kernel_rfl) (fun _=>rfl) (fun wz=>?_) ?_
 ·rfl
 try simp only [Act.put,sA,sB,sC]
 refine takeI 5 12 (.pointer (some ⟨p,0,none⟩)) rfl rfl (by kernel_rfl) (by kernel_rfl) (by kernel_rfl) (fun _ _ _ h=>h) (by kernel_rfl) (fun _=>rfl) (fun wz=>?_) ?_
 ·go_simp
 try simp only [Act.put,sA,sB,sC]
 refine takeI 6 13 (.pointer (some ⟨p,35,none⟩)) rfl rfl (by kernel_rfl) (by kernel_rfl) (by kernel_rfl) (fun _ _ _ h=>h) (by kernel_rfl) (fun _=>rfl) (fun wz=>?_) ?_
 ·go_simp
 try simp only [Act.put,sA,sB,sC]
 exact az
theorem treeNode_any:∀ (Z:Nat) (k:K),k.flat.size<Z→NodeOk k
 | 0,_,h=>absurd h (Nat.not_lt_zero _)
 | Z+1,k,h=>treeNode_step k fun k' hk=>treeNode_any Z k' (by omega)
end Go.Proofs.YthfcanpkhjgomaaGreat
