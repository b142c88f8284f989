import Derived.Test.YtjikkhbcbfpocaaGreatDoorKH
set_option maxRecDepth 100000
set_option maxHeartbeats 8000000
namespace Go.Proofs.YtjikkhbcbfpocaaGreatDoor
open Go.RowKit Go.Shelf
theorem cI {g:Operand} {ps:Array Tmp} {assign body:Code} {Q:Exit→Act→World→Prop} {a:Act} {w:World} (w0:World) (Bt p:Nat) (v:Vd) (m:Md) (k:K) (hT:AtT w0 p v m k) (hG:G w0 w)
  (hBt:w.cell? ⟨Bt,0,none⟩=some (.pointer (some ⟨p,0,none⟩))) (hg:a.eval g=.func (.func 71) #[] #[.pointer (some ⟨Bt,0,none⟩)]) (hps:ps.size=2)
  (I:List (qs w0 (fun x=>x∈k.items))→World→Prop) (hI:OwnFrom w.heap.size I) (h0:I [] w) (a₁:qs w0 (fun x=>x∈k.items)→Act)
  (hassign:∀ (l:Nat) (x:qs w0 (fun x=>x∈k.items)) (W:World) (K:Act→World→Prop),K (a₁ x) W→
   assign.wpIn (Fence.wide.inRound l) 1 Tryz.prog (Exit.then K (fun _ _ _=>False)) { tmps:=(ps.zip #[.string x.1.nm,.pointer (some ⟨x.1.p,0,none⟩)]).foldl (fun t (p,v)=>t.setIfInBounds p v) a.tmps,defers:=[] } W)
  (hbody:∀ (l:Nat) (pre:List (qs w0 (fun x=>x∈k.items))) (x:qs w0 (fun x=>x∈k.items)) (W:World),I pre W→jk (pre++[x]) <+: k.items→body.wpIn (Fence.wide.inRound l) 1 Tryz.prog (fun e _ W'=>e=.normal∧KeepsOthers W W'∧Below w0.heap.size W W'∧I (pre++[x]) W') (a₁ x) W)
  (hdone:∀ (D:Nat) (xs:List (qs w0 (fun x=>x∈k.items))) (W:World),w.heap.size≤D→jk xs=k.items→I xs W→W.heap[D]?=some (.deferred (some []))→Q .normal { a with defers:={ target:=.collected D,args:=#[] }::a.defers } W):
  (Code.rangeFunc g ps assign body).wpIn Fence.wide 3 Tryz.prog Q a w:=by
 refine yn rfl (by omega) hg trivial (enters_of Tryz.func71 (by kernel_rfl) rfl) ?_
 intro fn hfn rc hrc
 obtain ⟨W1,hW1⟩:∃ W1,(w.alloc (.deferred (some []))).alloc (.loop rc)=W1:=⟨_,rfl⟩
 have hL1:W1.heap[w.heap.size+1]?=some (.loop rc):=by
  rw [← hW1];have:=World.alloc_heap_new (w.alloc (.deferred (some []))) (.loop rc);rwa [World.size_alloc] at this
 have hK1:W1.heap[w.heap.size]?=some (.deferred (some [])):=by
  rw [← hW1];exact (Below.heap_alloc _ _ _ (by simp)).trans (World.alloc_heap_new w _)
 have hg1:G w W1:=by rw [← hW1];exact (G.alloc _ _).trans (G.alloc _ _)
 have hI1:I [] W1:=by rw [← hW1];exact hI.alloc _ (hI.alloc _ h0)
 rw [hW1]
 have hst:rc.state=.ready:=by rw [hrc]
 have hpe:rc.pending=none:=by rw [hrc]
 refine CallsIn.mono (yw 2 w0 (fun x=>x∈k.items) (w.heap.size+1) Bt p v m k
  (fun pre W=>I pre W∧W.heap[w.heap.size+1]?=some (.loop rc)∧W.heap[w.heap.size]?=some (.deferred (some []))) (fun _ _=>False)
  (fun pre W h=>⟨hI pre W W.drew none h.1 ⟨rfl,rfl,rfl,Nat.le_refl _,fun _ _ _=>rfl⟩ (fun r e=>by cases e),h.2⟩) ?_ W1 (hg1.cell hBt) hT (fun x hx=>hx) (hG.trans hg1) ⟨hI1,hL1,hK1⟩) ?_
 ·rintro pre x W ⟨hi,hl,hk⟩ _ hp
  have hlt:w.heap.size+1<W.heap.size:=(gS hl)
  have hy:=run_yield (P:=Tryz.prog) (args:=#[.string x.1.nm,.pointer (some ⟨x.1.p,0,none⟩)]) hl (by rw [hrc];exact hps.symm)
  rw [hrc] at hy
  refine ⟨fn,_,assign,body,hy,roundIn_of_wpIn hfn (hassign _ x W _ ⟨_,run_beginRound hl hst,?_⟩)⟩
  have hl2:(W.putObj (w.heap.size+1) (.loop { rc with state:=.busy })).heap[w.heap.size+1]?=some (.loop { rc with state:=.busy }):=World.putObj_heap_same hlt
  have hk2:(W.putObj (w.heap.size+1) (.loop { rc with state:=.busy })).heap[w.heap.size]?=some (.deferred (some [])):=(World.putObj_heap_other (by omega)).trans hk
  have low:∀ (A:World) (o:Obj),Below w0.heap.size A (A.putObj (w.heap.size+1) o):=fun A o=>⟨rfl,rfl,rfl,by simp,fun b hb=>World.putObj_heap_other (by have:=hG.size;omega)⟩
  refine wpIn_mono (hbody _ pre x _ (hI.putObj _ hi (by omega) hl rfl) hp) ?_
  rintro e a3 W3 ⟨rfl,hk3,hb3,hi3⟩
  have hl3:=hk3.same _ _ hl2 rfl
  have hr:=run_endRound (P:=Tryz.prog) none hl3
  have e:({ ({ rc with state:=.busy }:Loop) with state:=if (none:Option Code).isNone then .ready else .done,pending:=none }:Loop)=rc:=by
   obtain ⟨s,q,_⟩:=rc
   simp only at hst hpe
   subst hst hpe
   rfl
  rw [e] at hr
  exact ⟨_,_,hr,.inl ⟨rfl,⟨hI.putObj _ hi3 (by omega) hl3 rfl,World.putObj_heap_same (gS hl3),(World.putObj_heap_other (by omega)).trans (hk3.same _ _ hk2 rfl)⟩,((low W _).trans hb3).trans (low W3 _)⟩⟩
 ·rintro e W2 ⟨he,⟨xs,hxs,hi,hl,hk⟩ | ⟨_,_,h⟩⟩
  ·exact ⟨he,hl,hdone _ xs _ (Nat.le_refl _) hxs (hI.putObj _ hi (by omega) hl rfl) ((World.putObj_heap_other (by omega)).trans hk)⟩
  ·exact h.elim
attribute [local go_sem] Oper.semAt_some
theorem cF {W W':World} {row:Option Nat} {b:Nat} {o:Obj} (h:W.heap[b]?=some o) (ho:o.isCells=true) (hg:W.grownBy W' row) (hr:∀ r,row=some r→∃ o,W.heap[r]?=some o∧o.isCells=false):W'.heap[b]?=some o:=by
 refine (hg.block b (gS h) fun e=>?_).trans h
 obtain ⟨o',h1,h2⟩:=hr b e.symm
 rw [h] at h1
 cases h1
 rw [ho] at h2
 cases h2
theorem vR {W:World} {g:Nat} {x y:Value} {T:TypeId} (h:W.heap[g]?=some (.cells #[y] T (0,0))):(W.setCell ⟨g,0,none⟩ x).heap[g]?=some (.cells #[x] T (0,0)):=by
 unfold World.setCell
 simp only []
 rw [Array.getElem?_modify]
 simp [h]
def C1 (w:World) (X:Nat) (n:Nat) (W:World):Prop:=W.heap[w.heap.size]?=some (.cells #[.pointer (some ⟨X,0,none⟩)] 108 (0,0))∧W.heap[w.heap.size+1]?=some (.cells #[.int .i64 (n:Int)] 3 (0,0))∧G w W
theorem C1.own {w:World} {X n:Nat} {W W':World} {row:Option Nat} (h:C1 w X n W) (hg:W.grownBy W' row) (hr:∀ r,row=some r→w.heap.size≤r∧∃ o,W.heap[r]?=some o∧o.isCells=false):C1 w X n W':=by
 refine ⟨cF h.1 rfl hg fun r e=>(hr r e).2,cF h.2.1 rfl hg fun r e=>(hr r e).2,?_⟩
 have g:=h.2.2
 exact ⟨hg.os.trans g.os,hg.tape.trans g.tape,hg.output.trans g.output,Nat.le_trans g.size hg.size,fun b hb=>(hg.block b (Nat.lt_of_lt_of_le hb g.size) fun e=>by have:=(hr b e.symm).1;omega).trans (g.block b hb)⟩
theorem PoW.facts {lo X B:Nat} {b:List Nat} {ver:Int} {hs:List (List Nat)} {M:Nat→Prop} {W W2:World} (h:PoW lo X b ver hs M W W2) (hB:W.heap[B]?=some (.cells #[.pointer (some ⟨X,0,none⟩)] 108 (0,0))) (hM:¬ M B):
  W2.cell? ⟨B,0,none⟩=some (.pointer (some ⟨X,0,none⟩))∧∃ po cap vh,W2.cell? ⟨X,0,none⟩=some (.slice po b.length cap)∧W2.cell? ⟨X,2,none⟩=some vh∧W2.frozen? ⟨X,2,none⟩=false:=by
 obtain ⟨M',⟨u,vh,hW,_⟩,_,hF⟩:=h
 have h1:W2.heap[B]?=some (.cells #[.pointer (some ⟨X,0,none⟩)] 108 (0,0)):=(hF.same B (gS hB) hM).trans hB
 refine ⟨jB (jD h1) 0 _ rfl,?_⟩
 have h2:=jD hW.at_
 obtain ⟨po,cap,e⟩:∃ po cap,u=.slice po b.length cap:=by
  obtain ⟨_,⟨rfl,h3⟩ | ⟨g,cap,_,rv,_⟩⟩:=hW.ow
  ·exact ⟨none,0,by rw [h3]⟩
  ·exact ⟨_,cap,rv⟩
 subst e
 exact ⟨po,cap,vh,jB h2 0 _ rfl,jB h2 2 _ rfl,by simp [World.frozen?,hW.at_]⟩
theorem PoW.grow {lo X:Nat} {b:List Nat} {ver:Int} {hs:List (List Nat)} {M:Nat→Prop} {W W1 W2:World} (h:PoW lo X b ver hs M W W1) (hg:G W1 W2):PoW lo X b ver hs M W W2:=
 h.next fun M1 s1=>⟨M1,s1.keep hg,fun _ h=>.inl h,Fr.of_G hg⟩
theorem PoW.comp {lo X:Nat} {b':List Nat} {ver:Int} {hs':List (List Nat)} {M M3:Nat→Prop} {W W3 W4:World} (m3:∀ c,M3 c→M c∨W.heap.size≤c) (f3:Fr M W W3) (h4:PoW lo X b' ver hs' M3 W3 W4):PoW lo X b' ver hs' M W W4:=by
 obtain ⟨M4,g1,g2,g3⟩:=h4
 exact ⟨M4,g1,fun c hc=>(g2 c hc).elim (m3 c) fun h=>.inr (Nat.le_trans f3.size h),f3.trans m3 g3⟩
theorem Wr.cells {lo X:Nat} {b:List Nat} {ver:Int} {hs:List (List Nat)} {u vh:Value} {w:World} (h:Wr lo X b ver hs u vh w):∀ c,MW8 X u vh c→∃ o,w.heap[c]?=some o∧o.isCells=true:=by
 rintro c (rfl | hc | ⟨g,o,n,cp,hv,rfl⟩)
 ·exact ⟨_,h.at_,rfl⟩
 ·obtain ⟨_,⟨rfl,_⟩ | ⟨g,cap,cur,rv,_,rh,_⟩⟩:=h.ow
  ·cases hc
  ·rw [rv] at hc
   have:c=g:=by simpa [Value.ownBlock] using hc
   subst this
   exact ⟨_,rh,rfl⟩
 ·rcases h.hv with ⟨n',cap,h1,_⟩ | ⟨g',o',n',cap,h1,hl,_,_,cur,h3,_⟩
  ·rw [hv] at h1;simp at h1
  ·rw [hv] at h1
   simp at h1
   obtain ⟨⟨rfl,_⟩,_⟩:=h1
   exact ⟨_,h3,rfl⟩
theorem PoW.own {lo X:Nat} {b:List Nat} {ver:Int} {hs:List (List Nat)} {M:Nat→Prop} {W W1 W2:World} {row:Option Nat} (h:PoW lo X b ver hs M W W1) (hg:W1.grownBy W2 row) (hr:∀ r,row=some r→W.heap.size≤r∧∃ o,W1.heap[r]?=some o∧o.isCells=false):PoW lo X b ver hs M W W2:=by
 obtain ⟨M',⟨u,vh,hW,hM⟩,hm,hF⟩:=h
 refine ⟨M',⟨u,vh,hW.keep fun c hc=>?_,hM⟩,hm,⟨hg.os.trans hF.os,hg.tape.trans hF.tape,hg.output.trans hF.output,Nat.le_trans hF.size hg.size,fun c hc hn=>(hg.block c (Nat.lt_of_lt_of_le hc hF.size) fun e=>by have:=(hr c e.symm).1;omega).trans (hF.same c hc hn)⟩⟩
 obtain ⟨o,h1,h2⟩:=hW.cells c hc
 exact (cF h1 h2 hg fun r e=>(hr r e).2).trans h1.symm
theorem PoW.keeps {lo X:Nat} {b b0:List Nat} {ver:Int} {hs hs0:List (List Nat)} {M:Nat→Prop} {W W1:World} (hS:Ws lo X b0 ver hs0 M W) (h:PoW lo X b ver hs M W W1):KeepsOthers W W1:=by
 obtain ⟨u,vh,hW,hM⟩:=hS
 obtain ⟨M',_,_,hF⟩:=h
 refine ⟨hF.size,fun c o hc ho=>(hF.same c (gS hc) fun hm=>?_).trans hc⟩
 rw [hM] at hm
 obtain ⟨o',h1,h2⟩:=hW.cells c hm
 rw [hc] at h1
 cases h1
 rw [ho] at h2
 cases h2
theorem tC {L P:List Kid} {x:Kid} {n:Nat} (h:P++[x] <+: L) (hn:n=P.length):L.drop n=x::L.drop (n+1):=by
 obtain ⟨t,rfl⟩:=h
 subst hn
 rw [List.append_assoc,List.drop_left,List.drop_append]
 simp
theorem vS (ver:Int) {L P:List Kid} {x:Kid} (h:P++[x] <+: L):(encI ver P).length+(encT ver (namB x.nm) x.v x.m x.k.flat).length≤(encI ver L).length:=by
 obtain ⟨t,rfl⟩:=h
 simp [encI]
theorem KeepsOthers.of_G {W W1:World} (h:G W W1):KeepsOthers W W1:=⟨h.size,fun c _ hc _=>(h.block c (gS hc)).trans hc⟩
theorem made32:madeCells #[Value.int .u8 0] 32=z22:=by kernel_rfl
theorem info5b:(Tryz.prog.info? 5).map (fun i=>(i.zero,i.size,i.bytes))=some (some (.int .u8 0),1,1):=by kernel_rfl
theorem mk32 (W:World):(Instr.makeSlice 35 (.int .i64 32) (.int .i64 32)).run Tryz.prog W=.ok (.slice (some ⟨W.heap.size,0,none⟩) 32 32) (W.alloc (.cells z22 5)):=by
 obtain ⟨i0,hi,hz0,hz1,hz2⟩:=info_parts info5b
 have:=run_make (P:=Tryz.prog) W 35 5 i0 (.int .u8 0) Tryz.underlying35 hi hz0 .i64 .i64 32 32 (by omega) (by omega) (by rw [hz2];omega) (by omega)
 rw [hz1] at this
 rw [← made32]
 simpa [Value.cells] using this
theorem tD (W:World):Su.Has (W.alloc (.cells z22 5)) (.slice (some ⟨W.heap.size,0,none⟩) 32 32) jl:=by
 refine .inr ⟨⟨W.heap.size,0,none⟩,32,rfl,by decide,fun i hi=>?_⟩
 rw [Su.kj,Nat.zero_add]
 refine jB (jW W z22 5) i _ ?_
 show (jl.map Su.vb).toArray[i]?=_
 rw [List.getElem?_toArray,List.getElem?_map,List.getD,gl hi]
 rfl
def tE (fn:Func) (R:Ending→World→Prop):Exit→Act→World→Prop
 | .normal,a,w=>LeavesInM Fence.wide 3 Tryz.prog fn a.tmps R a.defers .returning w
 | _,_,_=>False
theorem tE.post {fn:Func} {R:Ending→World→Prop}:∀ e a w,tE fn R e a w→bodyPostM Fence.wide 3 Tryz.prog fn R e a w
 | .normal,_,_,h=>h
 | .ret,_,_,h | .panic _,_,_,h | .outgrown,_,_,h | .exit _,_,_,h | .goto _,_,_,h=>h.elim
theorem frozenAt {W:World} {X:Nat} {c:Array Value} {t:TypeId} (h:W.heap[X]?=some (.cells c t (0,0))) (i:Nat):W.frozen? ⟨X,i,none⟩=false:=by
 simp [World.frozen?,h]
theorem sl35 (g n5 r c:Nat) (hc:n5+(32+r)≤c) (wz:World):(Instr.sliceAt 35 (.slice (some ⟨g,0,none⟩) (n5+(32+r)) c) (some (.int .i64 (n5:Int))) none none).run Tryz.prog wz=.ok (.slice (some ⟨g,n5,none⟩) (32+r) (c-n5)) wz:=by
 have:=Su.slice43 ⟨g,0,none⟩ (n5+(32+r)) c n5 (by omega) wz
 rw [if_neg (by omega),Su.kj,Nat.zero_add,Nat.add_sub_cancel_left] at this
 exact this
theorem xF (W:World) (r:Nat) (o:Obj):W.grownBy (W.putObj r o) (some r):=⟨rfl,rfl,rfl,by simp,fun b _ hb=>World.putObj_heap_other (fun e=>hb (by rw [e]))⟩
theorem PoW.close {lo X D2:Nat} {b z r h:List Nat} {ver:Int} {hs:List (List Nat)} {M:Nat→Prop} {W W7:World} (hI:PoW lo X (b++(z++r)) ver (h::hs) M W W7) (hz:z.length=32) (hh:h.length=32) (hK:W7.heap[D2]?=some (.deferred (some []))):
  ∃ (g c:Nat) (cur:Array Value) (gh oh nh ch:Nat),W7.cell? ⟨X,0,none⟩=some (.slice (some ⟨g,0,none⟩) (b.length+(32+r.length)) c)∧W7.cell? ⟨X,2,none⟩=some (.slice (some ⟨gh,oh*32,none⟩) nh ch)∧W7.heap[g]?=some (.cells cur 5 (0,0))∧b.length+(32+r.length)≤c∧b.length+32≤cur.size∧1≤nh∧nh≤ch∧
   (∀ j v,(h.map Su.vb)[j]?=some v→W7.cell? ⟨gh,oh*32+j,none⟩=some v)∧
   ∃ Wc,Wc=W7.setRow g (cur.toList.take b.length++h.map Su.vb++cur.toList.drop (b.length+32)).toArray∧Wc.cell? ⟨X,0,none⟩=some (.slice (some ⟨g,0,none⟩) (b.length+(32+r.length)) c)∧Wc.cell? ⟨X,2,none⟩=some (.slice (some ⟨gh,oh*32,none⟩) nh ch)∧Wc.frozen? ⟨X,2,none⟩=false∧Fr M W Wc∧
    PoW lo X (b++(h++r)) ver hs M W (Wc.drew.setCell ⟨X,2,none⟩ (.slice (some (if ch=1 then ⟨gh,oh*32,none⟩ else ⟨gh,oh*32+32,none⟩)) (nh-1) (ch-1)))∧(Wc.drew.setCell ⟨X,2,none⟩ (.slice (some (if ch=1 then ⟨gh,oh*32,none⟩ else ⟨gh,oh*32+32,none⟩)) (nh-1) (ch-1))).heap[D2]?=some (.deferred (some [])):=by
 obtain ⟨M7,⟨u,vh,hW,rfl⟩,m7,f7⟩:=hI
 obtain ⟨g,c,cur,hu,hg,hc,hcs,hWc,hFc⟩:=hW.copied hz hh
 obtain ⟨gh,oh,nh,ch,hvh,hn1,hnc,_,_,hcell⟩:=hW.hash hh
 subst hu hvh
 have l7:=jD hW.at_
 have lc:=jD hWc.at_
 have hD:¬ MW8 X (.slice (some ⟨g,0,none⟩) (b.length+(32+r.length)) c) (.slice (some ⟨gh,oh*32,none⟩) nh ch) D2:=fun hm=>by
  obtain ⟨o,h1,h2⟩:=hW.cells D2 hm
  rw [hK] at h1
  cases h1
  cases h2
 have hDl:=(gS hK)
 have hWd:=hWc.keep (w':=(W7.setRow g (cur.toList.take b.length++h.map Su.vb++cur.toList.drop (b.length+32)).toArray).drew) fun _ _=>rfl
 obtain ⟨M',hS,hsub,hFk⟩:=hWd.cut hh
 refine ⟨g,c,cur,gh,oh,nh,ch,jB l7 0 _ rfl,jB l7 2 _ rfl,hg,hc,hcs,hn1,hnc,hcell,_,rfl,jB lc 0 _ rfl,jB lc 2 _ rfl,frozenAt hWc.at_ 2,f7.trans m7 hFc,⟨M',hS,fun c hc=>m7 c (hsub c hc),((f7.trans m7 hFc).trans m7 (Fr.of_G (G.drew _))).trans m7 hFk⟩,?_⟩
 exact (hFk.same D2 (Nat.lt_of_lt_of_le hDl hFc.size) hD).trans ((hFc.same D2 hDl hD).trans hK)
theorem cG {lo X:Nat} {b:List Nat} {ver:Int} {hs:List (List Nat)} {h:List Nat} {M:Nat→Prop} {w:World} (w0:World) (p:Nat) (v:Vd) (m:Md) (k:K) (hT:AtT w0 p v m k) (hG:G w0 w) (hlo:w0.heap.size≤lo) (hS:Ws lo X b ver (dirF k.flat++h::hs) M w) (hh:h.length=32) (hsz:k.flat.size≤100000) (hlen:b.length+(encN k.flat.len).length+32+(encF ver k.flat).length+200≤16777216)
  (CN:∀ x∈k.items,∀ (b':List Nat) (hs':List (List Nat)) (M':Nat→Prop) (W:World) (nv:Value),G w0 W→Ws lo X b' ver (dirT x.v x.k.flat++hs') M' W→(∀ W',Fr M' W W'→Su.Has W' nv (namB x.nm))→b'.length+(encT ver (namB x.nm) x.v x.m x.k.flat).length+200≤16777216→Calls Tryz.prog 57 #[.pointer (some ⟨X,0,none⟩),nv,.pointer (some ⟨x.p,0,none⟩)] W fun e w'=>e=.returned (.tuple #[])∧PoW lo X (b'++encT ver (namB x.nm) x.v x.m x.k.flat) ver hs' M' W w')
  (hnm:∀ x∈k.items,x.nm.size≤100000):
  Calls Tryz.prog 86 #[.pointer (some ⟨X,0,none⟩),.pointer (some ⟨p,0,none⟩)] w fun e w'=>e=.returned (.tuple #[])∧PoW lo X (b++(encN k.flat.len++(h++encF ver k.flat))) ver hs M w w':=by
 have HH:=hid (⟨hT,hG,hlo,hS,hh,hsz,hlen,CN,hnm⟩:_∧_∧_∧_∧_∧_∧_∧_∧_)
 clear hT hG hlo hS hh hsz hlen CN hnm
 obtain ⟨B,hB⟩:∃ B,w.heap.size=B:=⟨_,rfl⟩
 refine (callsIn_wide (n:=3)).1 ?_
 refine callsIn_of_wp_marks Tryz.func86 rfl trivial (Go.wpIn_mono (Q:=tE Tryz.f86 _) ?_ tE.post) rfl
 simp only [Tryz.ntmps86,List.size_toArray,lC,lN,Nat.reduceAdd,Nat.reduceSub,Array.replicate_succ,Array.replicate_zero,List.push_toArray,List.append_toArray,List.nil_append,List.cons_append]
 gi_wp2_with (refine ⟨trivial,?_⟩;gi_at_call 39;refine (callsIn_wide.2 (qw p _)).mono ?_;rintro e w' ⟨rfl,rfl⟩)
 have hw0:w0.heap.size≤B:=by rw [← hB];exact HH.o.2.1.size
 obtain ⟨W5,hW5⟩:∃ W5,W5=((w.alloc (.cells #[.pointer (some ⟨X,0,none⟩)] 108)).alloc (.cells #[.int .i64 0] 3)).alloc (.cells #[.pointer (some ⟨p,0,none⟩)] 32):=⟨_,rfl⟩
 have H5:Hid (C1 w X 0 W5∧W5.cell? ⟨B+1+1,0,none⟩=some (.pointer (some ⟨p,0,none⟩))∧W5.heap.size=B+3):=by
  have g1:=G.alloc w (.cells #[.pointer (some ⟨X,0,none⟩)] 108)
  have g2:=G.alloc (w.alloc (.cells #[.pointer (some ⟨X,0,none⟩)] 108)) (.cells #[.int .i64 0] 3)
  have g3:=G.alloc ((w.alloc (.cells #[.pointer (some ⟨X,0,none⟩)] 108)).alloc (.cells #[.int .i64 0] 3)) (.cells #[.pointer (some ⟨p,0,none⟩)] 32)
  rw [hW5]
  refine ⟨⟨?_,?_,(g1.trans g2).trans g3⟩,?_,by simp [hB]⟩
  ·exact (g3.block _ (by simp;omega)).trans ((g2.block _ (by simp)).trans (World.alloc_heap_new w _))
  ·refine (g3.block _ (by simp)).trans ?_
   have:=World.alloc_heap_new (w.alloc (.cells #[.pointer (some ⟨X,0,none⟩)] 108)) (.cells #[.int .i64 0] 3)
   rwa [World.size_alloc] at this
  ·have:=jB (jW ((w.alloc (.cells #[.pointer (some ⟨X,0,none⟩)] 108)).alloc (.cells #[.int .i64 0] 3)) #[.pointer (some ⟨p,0,none⟩)] 32) 0 _ rfl
   rw [World.size_alloc,World.size_alloc,hB] at this
   exact this
 rw [← hW5]
 clear hW5
 have hs5:=H5.o.2.2
 have hg5:G w0 W5:=HH.o.2.1.trans H5.o.1.2.2
 have hle5:w0.heap.size≤W5.heap.size:=hg5.size
 refine wpIn_rangeFunc_ownF rfl (by omega) (gf:=71) (lb:=#[.pointer (some ⟨B+1+1,0,none⟩)]) rfl trivial (enters_of Tryz.func71 (by kernel_rfl) rfl)
  (yK 2 w0 (fun x=>x∈k.items) (B+1+1) p v m k W5 (by omega) H5.o.2.1 HH.o.1 (fun x hx=>hx) hg5)
  (fun h k=>h.trans k) (belowK_b hle5) (Below.refl _ _) (fun _=>rfl)
  (fun pre W=>C1 w X pre.length W) (fun _ _ _=>False)
  (fun s W W' row hs hg hr=>hs.own hg fun r e=>⟨by have:=(hr r e).1;omega,(hr r e).2⟩) (fun _ _ _ _ _ hs _ _=>hs) H5.o.1
  ?a1 ?assign ?body ?done ?stop
 case assign=>
  intro l x W K hK
  gi_wp2
  exact hK
 case stop=>
  rintro D c pre W _ _ h _
  exact h.elim
 case body=>
  rintro l pre x W hC hl
  obtain ⟨N,hN⟩:∃ N,pre.length=N:=⟨_,rfl⟩
  have hN2:N<9000000:=by
   rw [K.items_len] at hl
   have:=HH.o.2.2.2.2.2.1
   have:=k.flat.len_le_size
   omega
  have e:(pre++[x]).length=N+1:=by simp [hN]
  rw [hN] at hC
  have HC:=hid (⟨hC,e⟩:_∧_)
  have c1:=jB (jD hC.2.1) 0 _ rfl
  rw [hB] at c1
  have f1:W.frozen? ⟨B+1,0,none⟩=false:=by rw [← hB];simp [World.frozen?,hC.2.1]
  clear hC hl e hN
  gi_wp2
  refine ⟨KeepsOthers.setCell _ _ _,(Below.refl _ W).setCell (p:=⟨B+1,0,none⟩) (Nat.le_succ_of_le hw0) _,?_⟩
  have hC:=HC.o.1
  show C1 w X (pre++[x]).length _
  rw [HC.o.2,← hB]
  refine ⟨(Below.heap_setCell _ _ _ _ (by show w.heap.size≠w.heap.size+1;omega)).trans hC.1,vR hC.2.1,Below.trans (B:=w.heap.size) hC.2.2 ((Below.refl _ W).setCell (p:=⟨w.heap.size+1,0,none⟩) (Nat.le_succ _) _)⟩
 case done=>
  rintro D ys W hD hys hC hK
  have hys1:ys.length=k.flat.len:=by
   have:(jk ys).length=k.items.length:=by rw [hys]
   rw [K.items_len] at this
   simpa using this
  rw [hys1] at hC
  have S1:Ws lo X b ver (dirF k.flat++h::hs) M W:=HH.o.2.2.2.1.keep hC.2.2
  have ML:∀ c,M c→c<B:=by
   intro c hc
   obtain ⟨u,vh,hW,hM⟩:=HH.o.2.2.2.1
   rw [hM] at hc
   have:=(hW.lt.2 c hc).2
   omega
  have hDB:B+3≤D:=by omega
  have HD:=hid (⟨hC,hK,S1,ML,hDB,hg5⟩:_∧_∧_∧_∧_∧_)
  have HB:Hid (W.heap[B]?=some (.cells #[.pointer (some ⟨X,0,none⟩)] 108 (0,0))∧B<W.heap.size∧D<W.heap.size):=by
   have h1:=hC.1
   rw [hB] at h1
   exact ⟨h1,(gS h1),(gS hK)⟩
  have HNB:Hid (¬ M B):=fun hm=>by have:=HD.o.2.2.2.1 B hm;omega
  have c2:=jB (jD HB.o.1) 0 _ rfl
  have c4:=jB (jD hC.2.1) 0 _ rfl
  rw [hB] at c4
  have CNum:=kq (w:=W) k.flat.len (by have:=HH.o.2.2.2.2.2.1;have:=k.flat.len_le_size;omega) S1 (by have:=HH.o.2.2.2.2.2.2.1;omega)
  clear hC hK S1 ML hys hys1 hD
  gi_wp2_with (refine ⟨trivial,?_⟩;gi_at_call 56;refine (callsIn_wide.2 CNum).mono ?_;rintro e W2 ⟨rfl,h2⟩;obtain ⟨d2,po2,cap2,vh2,d0,_⟩:=h2.facts HB.o.1 HNB.o;have H2:=hid h2;clear h2)
  have HP2:=hid (H2.o.grow (G.drew W2))
  refine kE (fun W'=>W'.cell? ⟨B,0,none⟩=some (.pointer (some ⟨X,0,none⟩))) ?_
  have hI6:W2.drew.cell? ⟨B,0,none⟩=some (.pointer (some ⟨X,0,none⟩)):=d2
  generalize W2.drew=W3 at *
  clear H2 d0 d2
  refine tJ jE 0 22 (.pointer (some ⟨X,0,none⟩)) hI6 (fun wz hz=>?_) ?_
  ·go_simp
  refine jb [1] (by kernel_rfl) (by simp) ?_
  have hI7:(W3.alloc (.cells z22 5)).cell? ⟨B,0,none⟩=some (.pointer (some ⟨X,0,none⟩)):=(G.alloc W3 _).cell hI6
  refine AllJ.value jE 1 23 (.slice (some ⟨W3.heap.size,0,none⟩) 32 32) (W3.alloc (.cells z22 5)) rfl (by kernel_rfl) ?mk hI7 ?_ AllJ.nil
  case mk=>
   have:=mk32 W3
   unfold execOp
   simp [go_sem,this]
  try simp only [Act.put,sA,sB,sC]
  refine jb [2] (by kernel_rfl) (by simp) ?_
  obtain ⟨M3,s3,m3,f3⟩:=HP2.o.grow (G.alloc W3 (.cells z22 5))
  have hen:=jT (n:=k.flat.len) (by have:=HH.o.2.2.2.2.2.1;have:=k.flat.len_le_size;omega)
  have CA:=qk (t:=jl) s3 (tD W3) (by have:=HH.o.2.2.2.2.2.2.1;simp only [lA,jl,List.length_replicate];omega)
  have HC3:=hid (⟨m3,f3⟩:_∧_)
  clear s3 m3 f3
  refine AllJ.call jE 2 24 55 #[.pointer (some ⟨X,0,none⟩),.slice (some ⟨W3.heap.size,0,none⟩) 32 32] rfl (by kernel_rfl) (by go_simp) ((callsIn_wide.2 CA).mono ?_) AllJ.nil
  rintro e W4 ⟨rfl,h4⟩
  have HP4:=hid (PoW.comp HC3.o.1 HC3.o.2 h4)
  have d4:=(HP4.o.facts HB.o.1 HNB.o).1
  clear h4 CA HC3 HP2 hI6 hI7
  refine ⟨_,rfl,d4,?_⟩
  try simp only [Act.put,sA,sB,sC]
  refine xn (by kernel_rfl) ?_
  gi_wp2_with (refine ⟨trivial,?_⟩;gi_at_call 39;refine (callsIn_wide.2 (qw p _)).mono ?_;rintro e w' ⟨rfl,rfl⟩)
  have HW0:Hid (G w0 W∧∀ c,M c→lo≤c):=by
   refine ⟨HH.o.2.1.trans HD.o.1.2.2,fun c hc=>?_⟩
   obtain ⟨u,vh,hW,hM⟩:=HH.o.2.2.2.1
   rw [hM] at hc
   exact (hW.lt.2 c hc).1
  have HGP:Hid (∀ (b':List Nat) (hs':List (List Nat)) (W':World),PoW lo X b' ver hs' M W W'→G w0 W'):=fun b' hs' W' h=>by
   obtain ⟨_,_,_,hF⟩:=h
   have hl:=HH.o.2.2.1
   exact Below.trans (B:=w0.heap.size) HW0.o.1 (hF.below (fun c hc=>Nat.le_trans hl (HW0.o.2 c hc)) HW0.o.1.size)
  have HP5:Hid (PoW lo X (b++(encN k.flat.len++(jl++encI ver []))) ver (dirI k.items++h::hs) M W (W4.alloc (.cells #[.pointer (some ⟨p,0,none⟩)] 32))):=by
   have:=HP4.o.grow (G.alloc W4 (.cells #[.pointer (some ⟨p,0,none⟩)] 32))
   rw [aX]
   have e:b++(encN k.flat.len++(jl++encI ver []))=b++encN k.flat.len++jl:=by simp [encI]
   rw [e]
   exact this
  obtain ⟨B6,hB6⟩:∃ B6,W4.heap.size=B6:=⟨_,rfl⟩
  have c6:=jB (jW W4 #[.pointer (some ⟨p,0,none⟩)] 32) 0 _ rfl
  rw [hB6] at c6
  rw [hB6]
  generalize W4.alloc (.cells #[.pointer (some ⟨p,0,none⟩)] 32)=W6 at *
  clear HP4 d4 c2 c4 CNum hen hB6
  have hs6:W.heap.size≤W6.heap.size:=by obtain ⟨_,_,_,hF⟩:=HP5.o;exact hF.size
  refine cI w0 B6 p v m k HH.o.1 (HGP.o _ _ _ HP5.o) c6 rfl rfl
   (fun pre W'=>PoW lo X (b++(encN k.flat.len++(jl++encI ver (jk pre)))) ver (dirI (k.items.drop pre.length)++h::hs) M W W')
   (fun s A A' row hp hg hr=>hp.own hg fun r e=>⟨by have:=(hr r e).1;omega,(hr r e).2⟩) HP5.o
   ?b1 ?assignB ?bodyB ?doneB
  case assignB=>
   intro l x W K hK
   gi_wp2
   exact hK
  case bodyB=>
   rintro l pre x W' hI hp
   obtain ⟨⟨xnm,xp,xv,xm,xk⟩,hxT,hxS⟩:=x
   have e0:jk (pre++[(⟨⟨xnm,xp,xv,xm,xk⟩,hxT,hxS⟩:qs w0 (fun x=>x∈k.items))])=jk pre++[⟨xnm,xp,xv,xm,xk⟩]:=by simp
   rw [e0] at hp
   have hdr:=tC (n:=pre.length) hp (by simp)
   have e1:dirI (k.items.drop pre.length)=dirT xv xk.flat++dirI (k.items.drop (pre.length+1)):=by rw [hdr];simp [dirI]
   have e2:encI ver (jk (pre++[(⟨⟨xnm,xp,xv,xm,xk⟩,hxT,hxS⟩:qs w0 (fun x=>x∈k.items))]))=encI ver (jk pre)++encT ver (namB xnm) xv xm xk.flat:=by
    rw [e0,pS]
   have e3:(encI ver (jk pre)).length+(encT ver (namB xnm) xv xm xk.flat).length≤(encF ver k.flat).length:=by
    have:=vS ver hp
    rwa [zp] at this
   rw [e1,List.append_assoc] at hI
   have HE:=hid (⟨e2,e3,hI⟩:_∧_∧_)
   have d2:=(hI.facts HB.o.1 HNB.o).1
   have CX:=HH.o.2.2.2.2.2.2.2.1 ⟨xnm,xp,xv,xm,xk⟩ hxS
   have hnl:=HH.o.2.2.2.2.2.2.2.2 ⟨xnm,xp,xv,xm,xk⟩ hxS
   simp only at CX hnl
   have HX:=hid (⟨CX,hnl⟩:_∧_)
   clear hdr e0 e1 e2 e3 hI CX hnl hp
   gi_wp2_with fail
   have HI:=hid (HE.o.2.2.grow (G.drew W'))
   have HGd:=hid (G.drew W')
   refine kE (fun W''=>W''.cell? ⟨B,0,none⟩=some (.pointer (some ⟨X,0,none⟩))) ?_
   have hI0:W'.drew.cell? ⟨B,0,none⟩=some (.pointer (some ⟨X,0,none⟩)):=d2
   generalize W'.drew=Wd at *
   refine tJ jH 0 29 (.pointer (some ⟨X,0,none⟩)) hI0 (fun wz hz=>?_) ?_
   ·go_simp
   refine tJ jH 1 30 (.string xnm) hI0 (fun wz hz=>?_) ?_
   ·rfl
   refine tJ jH 3 32 (.pointer (some ⟨xp,0,none⟩)) hI0 (fun wz hz=>?_) ?_
   ·rfl
   refine jb [2] (by kernel_rfl) (by simp) ?_
   have CP:=gA (.slice none 0 0) [] xnm Wd (.inl ⟨rfl,rfl⟩) HX.o.2 (by simp)
   refine AllJ.call jH 2 31 127 #[.slice none 0 0,.string xnm] rfl (by kernel_rfl) (by go_simp) (CallsIn.inRound _ ((callsIn_wide.2 CP).mono ?_)) AllJ.nil
   rintro e Wt ⟨nv,rfl,ho,hgt⟩
   have hI1:=hgt.cell hI0
   obtain ⟨M1,s1,m1,f1⟩:=HI.o
   have hM1:∀ c,M1 c→lo≤c∧c<Wd.heap.size:=by
    intro c hc
    obtain ⟨u,vh,hW,hM⟩:=s1
    rw [hM] at hc
    exact hW.lt.2 c hc
   have s2:=s1.keep hgt
   have f2:Fr M W Wt:=f1.trans m1 (Fr.of_G hgt)
   have CX:=HX.o.1 _ (dirI (k.items.drop (pre.length+1))++h::hs) M1 Wt nv (HGP.o _ _ _ (HI.o.grow hgt)) s2 (fun W'' hF=>(Su.Owns.block (by simpa [namB] using ho) fun c hc=>hF.same c (World.ownsRow.lt ho c hc).2 fun hm=>by have:=(hM1 c hm).2;have:=(World.ownsRow.lt ho c hc).1;omega).has) (by
    have h1:=HE.o.2.1
    have h2:=HH.o.2.2.2.2.2.2.1
    have h3:=jT (n:=k.flat.len) (by have:=HH.o.2.2.2.2.2.1;have:=k.flat.len_le_size;omega)
    simp only [lA,jl,List.length_replicate]
    omega)
   have H2:=hid (⟨s2,m1,f2,hgt,hM1⟩:_∧_∧_∧_∧_)
   clear s1 m1 f1 s2 f2 hM1 ho CP
   refine ⟨nv,rfl,hI1,?_⟩
   try simp only [Act.put,sA,sB,sC]
   refine jb [4] (by kernel_rfl) (by simp) ?_
   refine AllJ.call jH 4 33 57 #[.pointer (some ⟨X,0,none⟩),nv,.pointer (some ⟨xp,0,none⟩)] rfl (by kernel_rfl) (by go_simp) (CallsIn.inRound _ ((callsIn_wide.2 CX).mono ?_)) AllJ.nil
   rintro e We ⟨rfl,he⟩
   obtain ⟨s2,m1,f2,hgt,hM1⟩:=H2.o
   have hq:=PoW.comp m1 f2 he
   have hq2:PoW lo X (b++(encN k.flat.len++(jl++encI ver (jk (pre++[(⟨⟨xnm,xp,xv,xm,xk⟩,hxT,hxS⟩:qs w0 (fun x=>x∈k.items))]))))) ver (dirI (k.items.drop (pre++[(⟨⟨xnm,xp,xv,xm,xk⟩,hxT,hxS⟩:qs w0 (fun x=>x∈k.items))]).length)++h::hs) M W We:=by
    rw [HE.o.1]
    have el:(pre++[(⟨⟨xnm,xp,xv,xm,xk⟩,hxT,hxS⟩:qs w0 (fun x=>x∈k.items))]).length=pre.length+1:=by simp
    rw [el]
    have eb:b++(encN k.flat.len++(jl++(encI ver (jk pre)++encT ver (namB xnm) xv xm xk.flat)))=b++(encN k.flat.len++(jl++encI ver (jk pre)))++encT ver (namB xnm) xv xm xk.flat:=by simp
    rw [eb]
    exact hq
   have hgw:=HGP.o _ _ _ hq2
   have hke:KeepsOthers W' We:=((KeepsOthers.of_G HGd.o).trans (KeepsOthers.of_G hgt)).trans (PoW.keeps s2 he)
   have hbl:Below w0.heap.size W' We:=by
    obtain ⟨_,_,_,hF⟩:=he
    have hl:=HH.o.2.2.1
    have h1:w0.heap.size≤Wt.heap.size:=(HGP.o _ _ _ (HI.o.grow hgt)).size
    have h2:w0.heap.size≤W'.heap.size:=(HGP.o _ _ _ HE.o.2.2).size
    exact ((HGd.o.trans hgt).mono h2).trans (hF.below (fun c hc=>Nat.le_trans hl (hM1 c hc).1) h1)
   have HF:=hid (⟨hke,hbl,hq2⟩:_∧_∧_)
   have hI2:=(hq2.facts HB.o.1 HNB.o).1
   clear hq hq2 hgw hke hbl he s2 m1 f2 hgt hM1
   refine ⟨_,rfl,hI2,?_⟩
   try simp only [Act.put,sA,sB,sC]
   refine xn (by kernel_rfl) ?_
   exact ⟨rfl,HF.o⟩
  case doneB=>
   rintro D2 ys W7 hD2 hys hI hK
   have hI2:PoW lo X (b++encN k.flat.len++(jl++encF ver k.flat)) ver (h::hs) M W W7.drew:=by
    have h1:=hI.grow (G.drew W7)
    have h2:(jk ys).length=k.items.length:=by rw [hys]
    rw [show (jk ys).length=ys.length from by simp] at h2
    rw [hys,zp,h2,List.drop_length] at h1
    simpa [dirI] using h1
   obtain ⟨g,c,cur,gh,oh,nh,ch,x0,x2,hg,hc,hcs,hn1,hnc,hcell,Wc,hWc,y0,y2,yf,hF,hP,hK2⟩:=hI2.close (by simp [jl]) HH.o.2.2.2.2.1 (D2:=D2) hK
   have xB:=(hI2.facts HB.o.1 HNB.o).1
   have yB:Wc.cell? ⟨B,0,none⟩=some (.pointer (some ⟨X,0,none⟩)):=jB (jD ((hF.same B HB.o.2.1 HNB.o).trans HB.o.1)) 0 _ rfl
   obtain ⟨n5,hn5⟩:∃ n5,n5=b.length+(encN k.flat.len).length:=⟨_,rfl⟩
   have hn5':(b++encN k.flat.len).length=n5:=by rw [hn5];simp
   have hn5i:((b.length:Int)+((encN k.flat.len).length:Int))=(n5:Int):=by omega
   rw [hn5'] at x0 hc hcs hWc y0
   obtain ⟨r,hr⟩:∃ r,r=(encF ver k.flat).length:=⟨_,rfl⟩
   rw [← hr] at x0 hc y0
   have HQ:=hid (⟨hg,hc,hcs,hn1,hnc,hcell,hWc,hF,hP,hK2,hD2⟩:_∧_∧_∧_∧_∧_∧_∧_∧_∧_∧_)
   clear hg hcs hcell hWc hF hP hK2 hD2 hI hI2 hK hys
   gi_wp2_with fail
   rw [hn5i]
   have HN:=hid (⟨hn5',hr⟩:_∧_)
   clear hn5 hn5' hn5i hr
   refine kE (fun W''=>W''.cell? ⟨B,0,none⟩=some (.pointer (some ⟨X,0,none⟩))∧W''.cell? ⟨X,0,none⟩=some (.slice (some ⟨g,0,none⟩) (n5+(32+r)) c)∧W''.cell? ⟨X,2,none⟩=some (.slice (some ⟨gh,oh*32,none⟩) nh ch)) ?_
   have hI0:=(⟨xB,x0,x2⟩:_∧_∧_)
   generalize W7.drew=Wd at *
   refine tJ jE 0 34 (.pointer (some ⟨X,0,none⟩)) hI0 (fun wz hz=>?_) ?_
   ·have y:=hz.1;go_simp
   refine tJ jE 1 35 (.pointer (some ⟨X,0,none⟩)) hI0 (fun wz hz=>?_) ?_
   ·go_simp
   refine tJ jE 2 36 (.pointer (some ⟨X,0,none⟩)) hI0 (fun wz hz=>?_) ?_
   ·go_simp
   refine tJ jE 3 37 (.slice (some ⟨g,0,none⟩) (n5+(32+r)) c) hI0 (fun wz hz=>?_) ?_
   ·have y:=hz.2.1;go_simp
   refine tJ jE 4 38 (.int .i64 (n5:Int)) hI0 (fun wz hz=>?_) ?_
   ·rfl
   refine tJ jE 5 39 (.slice (some ⟨g,n5,none⟩) (32+r) (c-n5)) hI0 (fun wz hz=>?_) ?_
   ·have y:=sl35 g n5 r c hc wz;go_simp
   refine tJ jE 6 40 (.pointer (some ⟨X,0,none⟩)) hI0 (fun wz hz=>?_) ?_
   ·have y:=hz.1;go_simp
   refine tJ jE 7 41 (.pointer (some ⟨X,0,none⟩)) hI0 (fun wz hz=>?_) ?_
   ·go_simp
   refine tJ jE 8 42 (.pointer (some ⟨X,2,none⟩)) hI0 (fun wz hz=>?_) ?_
   ·go_simp
   refine tJ jE 9 43 (.slice (some ⟨gh,oh*32,none⟩) nh ch) hI0 (fun wz hz=>?_) ?_
   ·have y:=hz.2.2;go_simp
   refine tJ jE 10 44 (.pointer (some ⟨gh,oh*32,none⟩)) hI0 (fun wz hz=>?_) ?_
   ·have y:=jx;have y2:(0:Int)<nh:=by omega
    go_simp
    intro h0;omega
   refine tJ jE 11 45 (.slice (some ⟨gh,oh*32,none⟩) 32 32) hI0 (fun wz hz=>?_) ?_
   ·have y:=zA gh (oh*32) wz;go_simp
   refine jb [12] (by kernel_rfl) (by simp) ?_
   have hx:(Builtin.copy_ #[35,35] 3 #[.slice (some ⟨g,n5,none⟩) (32+r) (c-n5),.slice (some ⟨gh,oh*32,none⟩) 32 32]).run Tryz.prog Wd=.ok (.int .i64 32) Wc:=by
    obtain ⟨hg,_,hcs,_,_,hcell,hWc,_⟩:=HQ.o
    have hh:=HH.o.2.2.2.2.1
    have hl:(h.map Su.vb).length=32:=by simpa using hh
    have hrun:=run_copy_row (P:=Tryz.prog) Wd 35 35 3 5 g n5 (32+r) (c-n5) ⟨gh,oh*32,none⟩ 32 32 cur 5 (h.map Su.vb) Tryz.underlying35 (by kernel_rfl) hg (by rw [hl];exact (Nat.min_eq_left (by omega)).symm) (fun j v hv=>by rw [Su.kj];exact hcell j v hv) (by rw [hl];exact hcs) (by
     intro v hv
     obtain ⟨x,_,rfl⟩:=List.mem_map.1 hv
     rfl)
    rw [hl,← hWc] at hrun
    exact hrun
   refine AllJ.value jE 12 46 (.int .i64 32) Wc rfl (by kernel_rfl) ?cp ⟨yB,y0,y2⟩ ?_ AllJ.nil
   case cp=>
    clear HQ HH HN
    go_simp
   try simp only [Act.put,sA,sB,sC]
   refine xn (by kernel_rfl) ?_
   clear hx hI0 xB x0 x2
   gi_wp2_with fail
   have zB:Wc.drew.cell? ⟨B,0,none⟩=some (.pointer (some ⟨X,0,none⟩)):=yB
   have z2:Wc.drew.cell? ⟨X,2,none⟩=some (.slice (some ⟨gh,oh*32,none⟩) nh ch):=y2
   have zf:Wc.drew.frozen? ⟨X,2,none⟩=false:=yf
   clear yB y0 y2 yf
   refine kE (fun W''=>W''.cell? ⟨B,0,none⟩=some (.pointer (some ⟨X,0,none⟩))) ?_
   generalize Wc.drew=We at *
   refine tJ jE 0 47 (.pointer (some ⟨X,0,none⟩)) zB (fun wz hz=>?_) ?_
   ·go_simp
   refine tJ jE 1 48 (.pointer (some ⟨X,0,none⟩)) zB (fun wz hz=>?_) ?_
   ·go_simp
   refine tJ jE 2 49 (.pointer (some ⟨X,0,none⟩)) zB (fun wz hz=>?_) ?_
   ·go_simp
   refine tJ jE 3 50 (.pointer (some ⟨X,2,none⟩)) zB (fun wz hz=>?_) ?_
   ·go_simp
   refine jb [4] (by kernel_rfl) (by simp) ?_
   refine AllJ.value jE 4 51 (.slice (some ⟨gh,oh*32,none⟩) nh ch) We rfl (by kernel_rfl) (by go_simp) zB ?_ AllJ.nil
   try simp only [Act.put,sA,sB,sC]
   obtain ⟨vp,hvn⟩:∃ vp,(if ch=1 then (⟨gh,oh*32,none⟩:Addr) else ⟨gh,oh*32+32,none⟩)=vp:=⟨_,rfl⟩
   have hsl:=slice109 gh (oh*32) nh ch hn1 We
   rw [hvn] at hsl
   refine jb [5] (by kernel_rfl) (by simp) ?_
   refine AllJ.value jE 5 52 (.slice (some vp) (nh-1) (ch-1)) We rfl (by kernel_rfl) (by go_simp) zB ?_ AllJ.nil
   try simp only [Act.put,sA,sB,sC]
   clear hsl
   refine tJ jE 6 53 (.pointer (some ⟨X,0,none⟩)) zB (fun wz hz=>?_) ?_
   ·go_simp
   refine tJ jE 7 54 (.pointer (some ⟨X,2,none⟩)) zB (fun wz hz=>?_) ?_
   ·go_simp
   obtain ⟨hP,hK2,hD2⟩:=HQ.o.2.2.2.2.2.2.2.2
   rw [hvn] at hP hK2
   have hend:PoW lo X (b++(encN k.flat.len++(h++encF ver k.flat))) ver hs M w (We.setCell ⟨X,2,none⟩ (.slice (some vp) (nh-1) (ch-1))):=by
    have:=hP.after HD.o.1.2.2
    rwa [List.append_assoc] at this
   have hDk:(We.setCell ⟨X,2,none⟩ (.slice (some vp) (nh-1) (ch-1))).heap[D]?=some (.deferred (some [])):=by
    obtain ⟨_,_,_,hF⟩:=hP
    exact (hF.same D HB.o.2.2 fun hm=>by have:=HD.o.2.2.2.1 D hm;omega).trans HD.o.2.1
   have zB2:=(hP.facts HB.o.1 HNB.o).1
   have HE:=hid (⟨hend,hDk,hK2,hD2,Nat.le_trans (Nat.le_of_lt HB.o.2.2) hs6⟩:_∧_∧_∧_∧_)
   clear hP hK2 hD2 hend hDk hvn
   refine jb [8] (by kernel_rfl) (by simp) ?_
   refine AllJ.skip jE 8 (We.setCell ⟨X,2,none⟩ (.slice (some vp) (nh-1) (ch-1))) rfl (by kernel_rfl) ?st zB2 ?_ AllJ.nil
   case st=>go_simp
   try simp only [List.setIfInBounds_toArray,List.set_cons_zero,List.set_cons_succ]
   refine xn (by kernel_rfl) ?_
   obtain ⟨hend,hDk,hK2,hD2,hDD⟩:=HE.o
   have hne:D≠D2:=by have:=HB.o.2.2;omega
   have hwB:w.heap.size≤D:=by omega
   have p1:=hend.own (xF _ D2 (.deferred none)) fun r e=>by cases e;exact ⟨by omega,_,hK2,rfl⟩
   have hDk2:=(World.putObj_heap_other (o:=.deferred none) hne).trans hDk
   have p2:=p1.own (xF _ D (.deferred none)) fun r e=>by cases e;exact ⟨hwB,_,hDk2,rfl⟩
   refine ⟨by simp,.inl ⟨_,_,rfl,run_takeDeferred hK2,?_⟩⟩
   refine ⟨by simp,.inl ⟨_,_,rfl,run_takeDeferred hDk2,?_⟩⟩
   exact ⟨_,results_none rfl _ _ _,rfl,p2⟩
end Go.Proofs.YtjikkhbcbfpocaaGreatDoor
