import Derived.Test.YtjikkhbcbfpocaaGreatDoorGath
import Derived.Test.YtjikkhbcbfpocaaGreatDoorYN
set_option maxRecDepth 100000
set_option maxHeartbeats 8000000
namespace Go.Proofs.YtjikkhbcbfpocaaGreatDoor
open Go.RowKit Go.Shelf
attribute [local go_sem] Oper.semAt_some
theorem ln (f:Vd→Vd) (g:Md→Md):∀ k:F,(k.mp f g).nameL=k.nameL
 | .nil=>rfl
 | .cons n v m ks r=>by rw [F.mp,F.nameL,F.nameL,ln f g r]
theorem nH (ver:Int) (k:K) (hGa:lv ver k):iV ver k:=by
 intro p v m q Bv w hT hver hnm hqs hsz
 obtain ⟨pk,hT1,hT2⟩:=id hT
 obtain ⟨X,hX⟩:∃ X,X=(vx v).toArray:=⟨_,rfl⟩
 obtain ⟨M,hM⟩:∃ M,M=(mx m).toArray:=⟨_,rfl⟩
 have HX:Hid (X.size=35∧M.size=4∧X=(vx v).toArray∧M=(mx m).toArray):=⟨by rw [hX];simp [je],by rw [hM];simp [qh],hX,hM⟩
 have HLX:Hid (Lies w p 0 X∧Lies w p 35 M):=by
  have h1:=hT1.part 0 35
  have h2:=hT1.part 35 39
  rw [gw,← hX] at h1
  rw [aM,← hM] at h2
  rw [Nat.zero_add] at h2
  exact ⟨h1,h2⟩
 clear hX hM
 have HT:=hid (⟨hT,hver,hsz,hT1⟩:_∧_∧_∧_)
 obtain ⟨B,hB⟩:∃ B,w.heap.size=B:=⟨_,rfl⟩
 have hG1:G w ((w.alloc (.cells #[gfc Bv] 145)).alloc (.cells z30 30)):=(G.alloc _ _).trans (G.alloc _ _)
 have C42:Hid (Calls Tryz.prog 116 #[.string q,.pointer (some ⟨p,0,none⟩),yc Bv] ((w.alloc (.cells #[gfc Bv] 145)).alloc (.cells z30 30)) _):=hGa p v m q Bv _ (hT.grow hG1) (hG1.cell hver) hnm hqs hsz
 have H1:Hid (G w ((w.alloc (.cells #[gfc Bv] 145)).alloc (.cells z30 30))∧((w.alloc (.cells #[gfc Bv] 145)).alloc (.cells z30 30)).heap[B]?=some (.cells #[gfc Bv] 145 (0,0))∧Var ((w.alloc (.cells #[gfc Bv] 145)).alloc (.cells z30 30)) (B+1) z30∧((w.alloc (.cells #[gfc Bv] 145)).alloc (.cells z30 30)).heap.size=B+2):=by
  refine ⟨hG1,?_,?_,by rw [World.size_alloc,World.size_alloc,hB]⟩
  ·rw [Below.heap_alloc _ _ _ (by rw [World.size_alloc];omega),← hB];exact World.alloc_heap_new w _
  ·have h:=Var.new (w.alloc (.cells #[gfc Bv] 145)) z30
   rw [World.size_alloc,hB] at h
   exact h
 have hs1:(w.alloc (.cells #[gfc Bv] 145)).heap.size=B+1:=by rw [World.size_alloc,hB]
 have hcB:=Boxed.cell (t:=145) H1.o.2.1
 unfold yc at C42
 unfold gfc at *
 clear hT hver hnm hqs hsz hT1 hT2 hG1 hGa
 refine (callsIn_wide (n:=3)).1 ?_
 refine callsIn_of_wp_marks Tryz.func80 rfl trivial (Go.wpIn_mono (Q:=RetM Tryz.f80 _) ?_ RetM.post) rfl
 simp only [Tryz.ntmps80,List.size_toArray,lC,lN,Nat.reduceAdd,Nat.reduceSub,Array.replicate_succ,Array.replicate_zero,List.push_toArray,List.append_toArray,List.nil_append,List.cons_append]
 gi_wp2_with (first
  | ((with_reducible refine qP (.pointer (some ⟨B+1,0,none⟩)) ((w.alloc (.cells #[.func (.func 53) #[] #[.pointer (some ⟨Bv,0,none⟩)]] 145)).alloc (.cells z30 30)) ?_ ?_ ?_ ?_ ?_);rfl;exact qH rfl _ _ hs1;(intro c h;cases h);exact fun _ _=>trivial)
  | (refine ⟨trivial,?_⟩;gi_at_call 116;refine (callsIn_wide.2 C42.o).mono ?_;rintro e W2 ⟨un,ut,xs,T,rfl,hg2,hon,hot,hrc,htt,huu⟩))
 obtain ⟨bo,vc,rfl⟩:=kO hot
 obtain ⟨nf,hnf⟩:∃ nf,k.flat.len=nf:=⟨_,rfl⟩
 obtain ⟨W1,hW1⟩:∃ W1,W1=(w.alloc (.cells #[.func (.func 53) #[] #[.pointer (some ⟨Bv,0,none⟩)]] 145)).alloc (.cells z30 30):=⟨_,rfl⟩
 rw [← hW1] at hg2 hon hot htt huu H1
 rw [hnf] at hot htt huu ⊢
 have hlo:W1.heap.size+2=B+4:=by rw [H1.o.2.2.2]
 rw [hlo] at hon hot
 have HR:=hid (⟨hg2,hon,hot,hrc,htt,huu⟩:_∧_∧_∧_∧_∧_)
 have HGw:Hid (G w W2.drew∧G W1 W2.drew∧G W2 W2.drew):=⟨(H1.o.1.trans hg2).trans (G.drew W2),hg2.trans (G.drew W2),G.drew W2⟩
 clear hg2 hon hot hrc htt huu hcB hs1 hW1 C42 hlo
 refine lK ?_
 generalize W2.drew=Wd at *
 have HCB:Hid (∀ W',G Wd W'→W'.cell? ⟨B,0,none⟩=some (.func (.func 53) #[] #[.pointer (some ⟨Bv,0,none⟩)])):=fun W' h=>Boxed.cell (t:=145) (Below.block (HGw.o.2.1.trans h) B (gS H1.o.2.1) |>.trans H1.o.2.1)
 refine gI 0 17 (.pointer (some ⟨B,0,none⟩)) ?_
 refine fI 2 19 (.string q) ?_
 refine fI 3 20 (.pointer (some ⟨p,0,none⟩)) ?_
 refine gI 4 21 (.pointer (some ⟨p,0,none⟩)) ?_
 refine gI 5 22 (.pointer (some ⟨p,0,none⟩)) ?_
 refine fI 7 24 (.pointer (some ⟨p,0,none⟩)) ?_
 refine gI 8 25 (.pointer (some ⟨p,0,none⟩)) ?_
 refine gI 9 26 (.pointer (some ⟨p,35,none⟩)) ?_
 refine fI 11 28 (un) ?_
 refine fI 12 29 (.slice bo nf vc) ?_
 refine wpX.any (s:=13) _ _ _ _ ?_
 refine eY jE 1 18 (.func (.func 53) #[] #[.pointer (some ⟨Bv,0,none⟩)]) rfl rfl (by kernel_rfl) (by kernel_rfl) (by kernel_rfl) (by kernel_rfl) (by kernel_rfl) (fun _ _ _ h=>h) (by kernel_rfl) (fun wz hz=>?_) ?_
 ·have y:=HCB.o wz hz;go_simp
 try simp only [Act.put,sA,sB,sC]
 refine eY jE 6 23 (.agg X) rfl rfl (by kernel_rfl) (by kernel_rfl) (by kernel_rfl) (by kernel_rfl) (by kernel_rfl) (fun _ _ _ h=>h) (by kernel_rfl) (fun wz hz=>?_) ?_
 ·exact jJ _ rfl p 0 rfl X HX.o.1 ((HGw.o.1.trans hz).lies HLX.o.1)
 try simp only [Act.put,sA,sB,sC]
 refine eY jE 10 27 (.agg M) rfl rfl (by kernel_rfl) (by kernel_rfl) (by kernel_rfl) (by kernel_rfl) (by kernel_rfl) (fun _ _ _ h=>h) (by kernel_rfl) (fun wz hz=>?_) ?_
 ·exact jZ _ rfl p 35 rfl M HX.o.2.1 ((HGw.o.1.trans hz).lies HLX.o.2)
 try simp only [Act.put,sA,sB,sC]
 refine dL (by kernel_rfl) fun w9 hg9=>?_
 refine rI [13] ?_
 refine a0P jE 13 30 53 #[.string q,.agg X,.agg M,un,.slice bo nf vc,.pointer (some ⟨Bv,0,none⟩)] rfl rfl (by kernel_rfl) (by intro c h;cases h) (by go_simp) ?_
 obtain ⟨hg2,hon,hot,hrc,htt,huu⟩:=HR.o
 have hgq:G W2 w9:=HGw.o.2.2.trans hg9
 have hgw9:G w w9:=HGw.o.1.trans hg9
 have hon9:jz w9 (B+4) un k.flat.nameL:=yC hon hgq
 have hot9:=yC hot hgq
 have hfl:((k.flat.mp (pv ver) noM).blank).len=nf:=by rw [zT,hnf]
 have hnm:k.flat.nameL.length=nf:=by rw [F.nameL_len,hnf]
 have htl:∀ b,T b→b<w9.heap.size∧some b≠(Value.slice bo nf vc).ownBlock:=fun b hb=>by
  obtain ⟨⟨_,o,ho,_⟩,h2⟩:=htt b hb
  have:=(gS ho)
  have:=hgq.size
  exact ⟨by omega,h2⟩
 have CC:=sS ver q v m un bo nf vc k.flat.nameL ((k.flat.mp (pv ver) noM).blank) xs T (B+4) Bv w9 (hgw9.cell HT.o.2.1) hnm hfl (by have:=HT.o.2.2.1;have:=k.flat.len_le_size;omega)
  (fun W hW=>jz.has (lo:=B+4) (kB hon9 fun g hg=>hW.block g (ky hon9 hg).2.1 fun e=>(huu g e.symm).2 hg)) hot9
  (hrc.keep fun b hb=>⟨Below.block hgq b (by obtain ⟨⟨_,o,ho,_⟩,_⟩:=htt b hb;exact (gS ho)),hb⟩) htl
 rw [← HX.o.2.2.1,← HX.o.2.2.2] at CC
 refine (callsIn_wide.2 CC).mono ?_
 rintro e W3 ⟨xs',rfl,hgr,hot3,hrc3⟩
 refine ⟨_,rfl,?_⟩
 try simp only [Act.put,sA,sB,sC]
 have hB1:B+1<w9.heap.size:=by
  have h1:=(HGw.o.2.1.trans hg9).size
  have h2:=H1.o.2.2.2
  omega
 have hV9:Var w9 (B+1) z30:=H1.o.2.2.1.grow (HGw.o.2.1.trans hg9)
 have hown:∀ g,(Value.slice bo nf vc).ownBlock=some g→B+4≤g:=fun g hg=>(ky hot9 hg).1
 have hV3:Var W3 (B+1) z30:=(hgr.block (B+1) hB1 fun e=>by have:=hown _ e.symm;omega).trans hV9
 obtain ⟨CN,hCN⟩:∃ CN,nc ⟨#[]⟩ (pv ver v) Md.zero (.slice bo nf vc)=CN:=⟨_,rfl⟩
 have hco:CN.all (·.oneCell')=true:=by rw [← hCN];exact qz _ _ _ _ rfl
 have hcz:CN.size=41:=by rw [← hCN];exact jO ..
 rw [hCN]
 refine rI [14] ?_
 refine wH jE 14 (W3.setRow (B+1) CN) rfl rfl (by kernel_rfl) (by intro c h;cases h) (jU _ _ rfl (B+1) CN z30 rfl rfl _ hV3 hcz jN hco) ?_
 try simp only [List.setIfInBounds_toArray,List.set_cons_zero,List.set_cons_succ]
 refine dI ?_
 have HF:=hid (⟨hgr,hot3,hrc3,hV3,hgw9,hcz,hCN,hown,htt⟩:_∧_∧_∧_∧_∧_∧_∧_∧_)
 clear hgr hot3 hrc3 hV3 hgw9 hcz hCN hown htt CC hV9 hB1 hco htl
 gi_wp2_with fail
 obtain ⟨hgr,hot3,hrc3,hV3,hgw9,hcz,hCN,hown,htt⟩:=HF.o
 have hBw:w.heap.size=B:=hB
 have hoth:∀ b,b≠B+1→(W3.setRow (B+1) CN).heap[b]?=W3.heap[b]?:=fun b hb=>setRow_other _ (B+1) b _ hb
 have hR:Var (W3.setRow (B+1) CN) (B+1) CN:=hV3.set
 have hgs:=hgr.size
 have hgz:=hgw9.size
 have hrf:(k.flat.mp (pv ver) noM).blank.nm k.flat.nameL nf=k.flat.mp (pv ver) noM:=by
  rw [← ln (pv ver) noM k.flat,← hnf,← F.mp_len (pv ver) noM k.flat]
  exact F.nm_blank _
 rw [hrf] at hrc3
 have hG3:G w (W3.setRow (B+1) CN):=Below.trans (B:=w.heap.size) hgw9 ⟨hgr.os,hgr.tape,hgr.output,by simp;omega,fun b hb=>by
  rw [hoth b (by omega)]
  exact hgr.block b (by omega) fun e=>by have:=hown b e.symm;omega⟩
 refine ⟨_,results_cell_row (P:=Tryz.prog) (p:=6) (ty:=30) rfl _ _ (B+1) 30 CN (0,0) _ rfl hR qe rfl (by rw [kL,hcz]),CN,rfl,⟨_,hCN.symm,?_⟩,hG3⟩
 have hsp:xA W3 (fun b=>B+2≤b∧∃ o:Obj,W3.heap[b]?=some o∧zI o=true) (.slice bo nf vc) (k.flat.mp (pv ver) noM):=by
  refine ja.slice (lo:=B+4) (hrc3.keep fun b hb=>⟨rfl,?_⟩) (by rw [F.mp_len,hnf];exact hot3) fun g hg=>?_
  ·obtain ⟨⟨h1,o,ho,hoc⟩,h2⟩:=htt b hb
   have hs:=H1.o.2.2.2
   have hl:=(gS ho)
   have e1:=Below.block hgq b hl
   have hl9:=hgq.size
   exact ⟨by omega,o,(hgr.block b (by omega) h2).trans (e1.trans ho),hoc⟩
  ·obtain ⟨h1,_,cur,h3⟩:=ky hot3 hg
   exact ⟨by omega,_,h3,rfl⟩
 refine hsp.keep fun b hb=>?_
 obtain ⟨h8,o,ho,hoc⟩:=hb
 have e:=hoth b (by omega)
 exact ⟨e,by omega,o,e.trans ho,hoc⟩
theorem ft (ver:Int):∀ (Z:Nat) (k:K),k.flat.size<Z→iV ver k
 | 0,_,h=>absurd h (Nat.not_lt_zero _)
 | Z+1,k,h=>nH ver k (iW ver k fun k' hk=>ft ver Z k' (by omega))
theorem ss (ver:Int) (k:K) (p:Nat) (v:Vd) (m:Md) (Bv:Nat) (w:World) (hT:AtT w p v m k) (hver:w.cell? ⟨Bv,0,none⟩=some (.int .i64 ver)) (hnm:xE k.flat) (hd:256*k.flat.depth≤1000000) (hsz:k.flat.size≤100000):
  Calls Tryz.prog 52 #[.pointer (some ⟨p,0,none⟩),gfc Bv] w fun e w'=>∃ c',e=.returned (.agg c')∧zL w' (NewC w w') c' ⟨#[]⟩ (pv ver v) Md.zero (k.flat.mp (pv ver) noM)∧G w w':=by
 obtain ⟨B,hB⟩:∃ B,w.heap.size=B:=⟨_,rfl⟩
 have C33:Hid (∀ W,G w W→Calls Tryz.prog 80 #[.agg #[gfc Bv],.string ⟨#[]⟩,.pointer (some ⟨p,0,none⟩)] W fun e w'=>∃ c',e=.returned (.agg c')∧zL w' (NewC W w') c' ⟨#[]⟩ (pv ver v) Md.zero (k.flat.mp (pv ver) noM)∧G W w'):=fun W hg=>ft ver (k.flat.size+1) k (Nat.lt_succ_self _) p v m ⟨#[]⟩ Bv W (hT.grow hg) (hg.cell hver) hnm (by show 0+_≤_;omega) hsz
 clear hT hver hnm hd hsz
 unfold gfc at *
 obtain ⟨W1,hW1⟩:∃ W1,W1=(w.alloc (.cells z30 30)).alloc (.cells #[.func (.func 53) #[] #[.pointer (some ⟨Bv,0,none⟩)]] 145):=⟨_,rfl⟩
 have H1:Hid (G w W1∧Var W1 B z30∧W1.heap.size=B+2):=by
  rw [hW1]
  refine ⟨(G.alloc w (.cells z30 30)).trans (G.alloc _ _),?_,by rw [World.size_alloc,World.size_alloc,hB]⟩
  have h:=Var.new w z30
  rw [hB] at h
  exact h.grow (G.alloc _ _)
 refine (callsIn_wide (n:=3)).1 ?_
 refine callsIn_of_wp_marks Tryz.func52 rfl trivial (Go.wpIn_mono (Q:=RetM Tryz.f52 _) ?_ RetM.post) rfl
 simp only [Tryz.ntmps52,List.size_toArray,lC,lN,Nat.reduceAdd,Nat.reduceSub,Array.replicate_succ,Array.replicate_zero,List.push_toArray,List.append_toArray,List.nil_append,List.cons_append]
 gi_wp2_with (first
  | ((with_reducible refine qP (.pointer (some ⟨B,0,none⟩)) (w.alloc (.cells z30 30)) ?_ ?_ ?_ ?_ ?_);rfl;exact qH rfl _ _ hB;(intro c h;cases h);exact fun _ _=>trivial)
  | (refine ⟨trivial,?_⟩;gi_at_call 80;rw [← hW1];refine (callsIn_wide.2 (C33.o W1 H1.o.1)).mono ?_;rintro e W3 ⟨c',rfl,hn,hg⟩;have HV:Hid (Var W3 B z30∧c'.size=41∧c'.all (·.oneCell')=true):=⟨H1.o.2.1.grow hg,by { obtain ⟨kv,rfl,a2,cap2,rfl,_⟩:=hn;exact ⟨jO ..,qz _ _ _ _ rfl⟩ }⟩;have HN:=hid (And.intro hn hg);clear hn hg)
  | ((with_reducible refine kh (W3.setRow B c') ?_ ?_ ?_ ?_ ?_);rfl;exact jU _ _ rfl B c' z30 rfl rfl _ HV.o.1 HV.o.2.1 jN HV.o.2.2;(intro c h;cases h);exact fun _ _=>trivial))
 obtain ⟨hn,hg⟩:=HN.o
 have hBw:w.heap.size=B:=hB
 have hs:=hg.size
 have hs1:=H1.o.2.2
 have hoth:∀ b,b≠B→(W3.setRow B c').heap[b]?=W3.heap[b]?:=fun b hb=>setRow_other _ B b _ hb
 refine ⟨_,results_cell_row (P:=Tryz.prog) (p:=4) (ty:=30) rfl _ _ B 30 c' (0,0) _ rfl HV.o.1.set qe rfl (by rw [kL,HV.o.2.1]),c',rfl,?_,Below.trans (B:=w.heap.size) (H1.o.1.trans hg) ⟨rfl,rfl,rfl,by simp,fun b hb=>hoth b (by omega)⟩⟩
 obtain ⟨kv,hkv,hk⟩:=hn
 refine ⟨kv,hkv,hk.keep fun b hb=>?_⟩
 obtain ⟨h8,o,ho,hoc⟩:=hb
 have e:=hoth b (by omega)
 exact ⟨e,by omega,o,e.trans ho,hoc⟩
end Go.Proofs.YtjikkhbcbfpocaaGreatDoor
namespace Go.Proofs.YtjikkhbcbfpocaaGreatDoor
open Go.RowKit
theorem ii {v:Vd} (h:jm v=true):jm (unkV v)=true:=by
 by_cases h3:v.kind=3
 ·unfold unkV;rw [if_pos h3];exact h
 ·unfold jm at h ⊢
  rw [dB]
  by_cases h1:v.kind=1
  ·rw [if_pos h1] at h ⊢
   rw [decide_eq_true_eq] at h ⊢
   unfold unkV
   rw [if_neg h3]
   exact ⟨⟨by show (0:Int)≤8;decide,by show (8:Int)≤8;decide⟩,h.2⟩
  ·rw [if_neg h1] at h ⊢
   by_cases h2:v.kind=2
   ·rw [if_pos h2] at h ⊢
    rw [decide_eq_true_eq] at h ⊢
    unfold unkV
    rw [if_neg h3]
    exact ⟨⟨by show (0:Int)≤8;decide,by show (8:Int)≤8;decide⟩,h.2⟩
   ·rw [if_neg h2,if_neg h3] at h
    cases h
theorem dN {v:Vd} {m:Md} {b:Bool} (h:ownE v m b=0):jm v=true:=by
 unfold ownE at h
 split at h
 ·cases h
 ·split at h
  ·cases h
  ·split at h
   ·cases h
   ·rename_i q
    simpa using q
theorem vV (ver:Int) (v:Vd):(pv ver v).kind=v.kind:=by unfold pv;split;exact dB v;rfl
theorem nO (ver:Int) {v:Vd} (h:jm v=true):jm (pv ver v)=true:=by unfold pv;split;exact ii h;exact h
theorem pY (ver:Int) {v:Vd} {m:Md} {b:Bool} (h:ownE v m b=0):ownE (pv ver v) Md.zero b=0:=by
 have hr:=dN h
 have hu:=nO ver hr
 unfold ownE at h ⊢
 rw [vV,hu]
 split at h
 ·cases h
 ·rename_i h1
  rw [if_neg h1]
  split at h
  ·cases h
  ·rename_i h2
   rw [if_neg h2,if_neg (by simp),if_neg (fun q=>by rcases q.2 with q | q<;>exact absurd q (by decide)),if_neg (fun q=>q.2 rfl)]
theorem cN (ver:Int):∀ (f:F) (prev:Option ByteArray) (L:List ByteArray),jc f prev L=none→jc (f.mp (pv ver) noM) prev L=none
 | .nil,_,_,_=>rfl
 | .cons nm v m ks r,prev,L,h=>by
  rw [jc] at h
  rw [F.mp,jc]
  split at h
  ·cases h
  ·rename_i h1
   split at h
   ·cases h
   ·rename_i h2
    split at h
    ·cases h
    ·rename_i h3
     rw [if_neg h1,F.mp_len,noM,if_neg (by rw [pY ver (Classical.not_not.1 h2)];simp),cN ver ks none (L++[nm]) h3]
     exact cN ver r (some nm) L h
theorem gK (ver:Int) {v:Vd} {m:Md} {ks:F} (h:qL v m ks=0):qL (pv ver v) Md.zero (ks.mp (pv ver) noM)=0:=by
 obtain ⟨h1,h2⟩:=dx h
 unfold qL qR
 rw [F.mp_len,if_neg (by rw [pY ver h1];simp),cN ver ks none [] h2]
 rfl
theorem xR:∀ {f:F} {prev:Option ByteArray} {L:List ByteArray},jc f prev L=none→L.length≤64→xE f∧L.length+f.depth≤64
 | .nil,_,_,_,h=>⟨trivial,by simpa [F.depth] using h⟩
 | .cons nm v m ks r,prev,L,h,hL=>by
  rw [jc] at h
  by_cases h1:qo prev nm (L.length+1)≠0
  ·rw [if_pos h1] at h;cases h
  rw [if_neg h1] at h
  by_cases h2:ownE v m (decide (0<ks.len))≠0
  ·rw [if_pos h2] at h;cases h
  rw [if_neg h2] at h
  cases h3:jc ks none (L++[nm]) with
  | some x=>rw [h3] at h;cases h
  | none=>
   rw [h3] at h
   have h5:qo prev nm (L.length+1)=0:=by simpa using h1
   unfold qo at h5
   split at h5
   ·cases h5
   rename_i h6
   split at h5
   ·cases h5
   rename_i h7
   have ih1:=xR h3 (by simp;omega)
   have ih2:=xR (f:=r) (prev:=some nm) (L:=L) h hL
   have hl:(L++[nm]).length=L.length+1:=by simp
   rw [hl] at ih1
   refine ⟨⟨by simpa using h7,ih1.1,ih2.1⟩,?_⟩
   show L.length+max (ks.depth+1) r.depth≤64
   omega
theorem nP {v:Vd} {m:Md} {ks:F} (h:qL v m ks=0):xE ks∧ks.depth≤64:=by
 have:=xR (dx h).2 (by simp)
 simpa using this
theorem F.yd {fv fv':Vd→Vd} {fm fm':Md→Md} (hv:∀ v,fv v=fv' v) (hm:∀ m,fm m=fm' m):∀ f:F,f.mp fv fm=f.mp fv' fm'
 | .nil=>rfl
 | .cons nm v m ks r=>by rw [F.mp,F.mp,hv,hm,F.yd hv hm ks,F.yd hv hm r]
theorem F.mp_id {fv:Vd→Vd} {fm:Md→Md} (hv:∀ v,fv v=v) (hm:∀ m,fm m=m):∀ f:F,f.mp fv fm=f
 | .nil=>rfl
 | .cons nm v m ks r=>by rw [F.mp,hv,hm,F.mp_id hv hm ks,F.mp_id hv hm r]
def Pjd (w w':World) (u:Value) (v:Vd) (m:Md) (f:F):Prop:=∃ p k,u=.pointer (some ⟨p,0,none⟩)∧AtT w' p v m k∧k.flat=f∧Tr w' p∧G w w'
theorem ij (ver:Int) (hv:ver=1∨ver=2) (k:K) (p:Nat) (v:Vd) (m:Md) (w:World) (hT:AtT w p v m k) (hce:qL v m k.flat=0) (hw:k.flat.weight≤20000):
  Calls Tryz.prog 30 #[.pointer (some ⟨p,0,none⟩),.int .i64 ver] w fun e w'=>∃ u,e=.returned u∧Pjd w w' u (pv ver v) Md.zero (k.flat.mp (pv ver) noM):=by
 have hd:=nP hce
 have hG1:G w (w.alloc (.cells #[.int .i64 ver] 3)):=G.alloc _ _
 have hc1:(w.alloc (.cells #[.int .i64 ver] 3)).cell? ⟨w.heap.size,0,none⟩=some (.int .i64 ver):=jB (jW w #[.int .i64 ver] 3) 0 _ rfl
 have C20:=ss ver k p v m w.heap.size _ (hT.grow hG1) hc1 hd.1 (by omega) (by have:=F.size_le_weight k.flat;omega)
 have H1:=hid (⟨hG1,hc1⟩:_∧_)
 have HE:=hid (gK ver hce)
 have HW:Hid ((k.flat.mp (pv ver) noM).weight≤100000):=by show _≤_;rw [F.mp_weight];omega
 clear hT hce hw hd hG1 hc1
 unfold gfc at C20
 have C5:Hid (∀ (c2:Array Value) (W:World),HasN W c2 ⟨#[]⟩ (pv ver v) Md.zero (k.flat.mp (pv ver) noM)→Calls Tryz.prog 29 #[.agg c2] W fun e w'=>∃ u,e=.returned (.tuple #[u,.int .i64 0])∧G W w'∧∃ p k',u=.pointer (some ⟨p,0,none⟩)∧AtT w' p (pv ver v) Md.zero k'∧k'.flat=k.flat.mp (pv ver) noM∧Tr w' p):=by
  intro c2 W hN
  have:=cY c2 _ _ _ _ W hN HW.o
  rw [HE.o] at this
  refine this.mono ?_
  rintro e w' ⟨u,rfl,hg,⟨h,_⟩ | ⟨_,p,k',rfl,h1,h2,_,h4⟩⟩
  ·exact absurd rfl h
  ·exact ⟨_,rfl,hg,p,k',rfl,h1,h2,h4⟩
 clear HE HW
 generalize k.flat.mp (pv ver) noM=ks2 at *
 generalize pv ver v=v2 at *
 go_enter Tryz.func30,Tryz.ntmps30
 go_upto_region 1 with fail
 generalize w.alloc (.cells #[.int .i64 ver] 3)=w1 at *
 have hc1:=H1.o.2
 generalize w.heap.size=B at *
 rcases hv with rfl | rfl
 all_goals
  go_upto_region 4 with (first
   | (go_at_call 52;refine C20.mono ?_;rintro e w2 ⟨c2,rfl,hn2,hg2⟩;have hf2:=hn2.facts;have H2:=hid (⟨hn2,H1.o.1.trans hg2⟩:_∧G w w2);clear C20 hn2 hg2)
   | ((with_reducible refine jF (.pointer (some ⟨w2.heap.size,0,none⟩)) (w2.alloc (.cells z30 30)) ?_ ?_);exact zO rfl _)
   | ((with_reducible refine jC ((w2.alloc (.cells z30 30)).setRow w2.heap.size c2) ?_ ?_);exact jU _ _ rfl w2.heap.size c2 z30 rfl rfl _ (Var.new w2 z30) hf2.1 jN hf2.2))
  have h3:=aR w2 c2
  have H3:=hid (⟨h3.2.1,H2.o.2.trans h3.1,H2.o.1.has.below h3.1⟩:Var _ _ _∧G w _∧HasN _ c2 _ _ _ _)
  clear h3 H2
  generalize (w2.alloc (.cells z30 30)).setRow w2.heap.size c2=w3 at *
  generalize w2.heap.size=B2 at *
  go_wp2_with (first
   | ((with_reducible refine jA (.agg c2) ?_ ?_);exact jK _ rfl B2 0 rfl c2 hf2.1 H3.o.1.lies)
   | (go_at_call 29;refine (C5.o c2 w3 H3.o.2.2).mono ?_;rintro e w4 ⟨u,rfl,hg4,h4⟩;have H4:=hid (And.intro hg4 h4);clear hg4 h4))
  go_ret
  obtain ⟨hg,p2,k2,hu,h1,h2,h3⟩:=H4.o
  exact ⟨_,rfl,p2,k2,hu,h1,h2,h3,H3.o.2.1.trans hg⟩
theorem gL (ver:Int) (hv:¬ (ver=1∨ver=2)) (k:K) (p:Nat) (v:Vd) (m:Md) (w:World) (hT:AtT w p v m k) (hTr:Tr w p):
  Calls Tryz.prog 30 #[.pointer (some ⟨p,0,none⟩),.int .i64 ver] w fun e w'=>∃ u,e=.returned u∧Pjd w w' u v m k.flat:=by
 have hG1:G w (w.alloc (.cells #[.int .i64 ver] 3)):=G.alloc _ _
 have hc1:(w.alloc (.cells #[.int .i64 ver] 3)).cell? ⟨w.heap.size,0,none⟩=some (.int .i64 ver):=jB (jW w #[.int .i64 ver] 3) 0 _ rfl
 have H1:=hid (⟨hG1,hT.grow hG1,hTr.grow hG1⟩:G w _∧AtT _ p v m k∧Tr _ p)
 have h1:(ver !=1)=true:=by have:¬ ver=1:=fun h=>hv (.inl h);simpa using this
 have h2:(ver !=2)=true:=by have:¬ ver=2:=fun h=>hv (.inr h);simpa using this
 clear hT hTr hG1 hv
 go_enter Tryz.func30,Tryz.ntmps30
 go_upto_region 1 with fail
 generalize w.alloc (.cells #[.int .i64 ver] 3)=w1 at *
 generalize w.heap.size=B at *
 go_wp2_with fail
 go_ret
 exact ⟨_,rfl,p,k,rfl,H1.o.2.1,rfl,H1.o.2.2,H1.o.1⟩
theorem cO (ver:Int) (k:K) (p:Nat) (v:Vd) (m:Md) (w:World) (hT:AtT w p v m k) (hTr:Tr w p) (hce:qL v m k.flat=0) (hw:k.flat.weight≤20000):
  Calls Tryz.prog 30 #[.pointer (some ⟨p,0,none⟩),.int .i64 ver] w fun e w'=>∃ u,e=.returned u∧Pjd w w' u (pv ver v) (pm ver m) (k.flat.mp (pv ver) (pm ver)):=by
 by_cases hv:ver=1∨ver=2
 ·have e1:pm ver m=Md.zero:=if_pos hv
  have e2:k.flat.mp (pv ver) (pm ver)=k.flat.mp (pv ver) noM:=F.yd (fun _=>rfl) (fun _=>if_pos hv) _
  rw [e1,e2]
  exact ij ver hv k p v m w hT hce hw
 ·have e1:pm ver m=m:=if_neg hv
  have e0:∀ v,pv ver v=v:=fun v=>if_neg fun h=>hv (.inl h)
  have e2:k.flat.mp (pv ver) (pm ver)=k.flat:=F.mp_id e0 (fun _=>if_neg hv) _
  rw [e1,e2,e0]
  exact gL ver hv k p v m w hT hTr
open Go.Shelf
theorem a0V {a b:Int} (ha:1≤a) (hb:1≤b) (v:Vd):pv b (pv a v)=pv (min a b) v:=by
 unfold pv
 by_cases h1:a=1
 ·rw [if_pos h1,if_pos (show min a b=1 by omega)]
  split
  ·exact xu v
  ·rfl
 ·rw [if_neg h1]
  by_cases h2:b=1
  ·rw [if_pos h2,if_pos (show min a b=1 by omega)]
  ·rw [if_neg h2,if_neg (by omega)]
theorem a0W {a b:Int} (ha:1≤a∧a≤3) (hb:1≤b∧b≤3) (m:Md):pm b (pm a m)=pm (min a b) m:=by
 unfold pm
 by_cases h1:a=1∨a=2
 ·rw [if_pos h1,if_pos (show min a b=1∨min a b=2 by omega)]
  split<;>rfl
 ·rw [if_neg h1]
  by_cases h2:b=1∨b=2
  ·rw [if_pos h2,if_pos (by omega)]
  ·rw [if_neg h2,if_neg (by omega)]
theorem F.pj_pj {a b:Int} (ha:1≤a∧a≤3) (hb:1≤b∧b≤3) (f:F):(f.mp (pv a) (pm a)).mp (pv b) (pm b)=f.mp (pv (min a b)) (pm (min a b)):=by
 rw [F.mp_mp]
 exact F.yd (fun v=>a0V ha.1 hb.1 v) (fun m=>a0W ha hb m) f
theorem sR {a:Int} (ha:1≤a) (v:Vd):wrV a v=pv a v:=by
 unfold wrV pv
 by_cases h:a<2
 ·rw [if_pos h,if_pos (by omega)]
 ·rw [if_neg h,if_neg (by omega)]
theorem wX {a:Int} (ha:1≤a∧a≤3) (m:Md):mz a m=pm a m:=by
 unfold mz pm
 by_cases h:a<3
 ·rw [if_pos h,if_pos (by omega)]
 ·rw [if_neg h,if_neg (by omega)]
theorem a0X {a:Int} (ha:1≤a∧a≤3) (f:F):(wrF a f).mp id (mz a)=f.mp (pv a) (pm a):=by
 unfold wrF
 by_cases h:a<2
 ·rw [if_pos h,F.mp_mp]
  exact F.yd (fun v=>by rw [← sR ha.1];unfold wrV;rw [if_pos h];rfl) (fun m=>wX ha m) f
 ·rw [if_neg h]
  exact F.yd (fun v=>by rw [← sR ha.1];unfold wrV;rw [if_neg h];rfl) (fun m=>wX ha m) f
attribute [local go_sem] Oper.semAt_some
def TrF (w:World) (p:Nat) (v:Vd) (m:Md) (f:F):Prop:=∃ k,AtT w p v m k∧k.flat=f∧Tr w p
theorem TrF.grow {w w':World} {p:Nat} {v:Vd} {m:Md} {f:F} (h:TrF w p v m f) (hg:G w w'):TrF w' p v m f:=by obtain ⟨k,h1,h2,h3⟩:=h;exact ⟨k,h1.grow hg,h2,h3.grow hg⟩
theorem sO (c:Array Value) (hs:c.size=41) (w:World) (a b:Int)
  (CK:Hid (∀ W,G w W→Calls Tryz.prog 22 #[] W fun e w'=>e=.returned (.bool true)∧G W w'))
  (CF:Hid (∀ W,G w W→Calls Tryz.prog 28 #[.agg c] W fun e w'=>e=.returned (.bool false)∧G W w')):
  Calls Tryz.prog 8 #[.agg c,.int .i64 a,.int .i64 b] w fun e w'=>e=.returned (.bool true)∧G w w':=by
 have HV:=hid (⟨Var.new w c,G.alloc w (.cells c 30)⟩:Var (w.alloc (.cells c 30)) w.heap.size c∧G w (w.alloc (.cells c 30)))
 go_enter Tryz.func8,Tryz.ntmps8
 go_upto_region 1 with fail
 generalize w.alloc (.cells c 30)=w1 at *
 generalize w.heap.size=B at *
 go_wp2_with (first
  | (go_at_call 22;refine (CK.o _ HV.o.2).mono ?_;rintro e w2 ⟨rfl,hg2⟩;have H2:=hid (⟨HV.o.1.grow hg2,HV.o.2.trans hg2⟩:Var w2 B c∧G w w2);clear hg2)
  | ((with_reducible refine jA (.agg c) ?_ ?_);exact jK _ rfl B 0 rfl c hs H2.o.1.lies)
  | (go_at_call 28;refine (CF.o _ H2.o.2).mono ?_;rintro e w3 ⟨rfl,hg3⟩;have H3:=hid (⟨H2.o.1.grow hg3,H2.o.2.trans hg3⟩:Var w3 B c∧G w w3);clear hg3))
 go_ret
 exact ⟨rfl,H3.o.2⟩
theorem sP (c:Array Value) (hs:c.size=41) (w:World) (a b:Int) (hbad:a<1∨3<a∨b<1∨3<b)
  (CK:Hid (∀ W,G w W→Calls Tryz.prog 22 #[] W fun e w'=>e=.returned (.bool true)∧G W w'))
  (CF:Hid (∀ W,G w W→Calls Tryz.prog 28 #[.agg c] W fun e w'=>e=.returned (.bool true)∧G W w')):
  Calls Tryz.prog 8 #[.agg c,.int .i64 a,.int .i64 b] w fun e w'=>e=.returned (.bool true)∧G w w':=by
 have HV:=hid (⟨Var.new w c,G.alloc w (.cells c 30)⟩:Var (w.alloc (.cells c 30)) w.heap.size c∧G w (w.alloc (.cells c 30)))
 by_cases h1:a<1
 ·go_enter Tryz.func8,Tryz.ntmps8
  go_upto_region 1 with fail
  generalize w.alloc (.cells c 30)=w1 at *
  generalize w.heap.size=B at *
  go_wp2_with (first
   | (go_at_call 22;refine (CK.o _ HV.o.2).mono ?_;rintro e w2 ⟨rfl,hg2⟩;have H2:=hid (⟨HV.o.1.grow hg2,HV.o.2.trans hg2⟩:Var w2 B c∧G w w2);clear hg2)
   | ((with_reducible refine jA (.agg c) ?_ ?_);exact jK _ rfl B 0 rfl c hs H2.o.1.lies)
   | (go_at_call 28;refine (CF.o _ H2.o.2).mono ?_;rintro e w3 ⟨rfl,hg3⟩;have H3:=hid (⟨H2.o.1.grow hg3,H2.o.2.trans hg3⟩:Var w3 B c∧G w w3);clear hg3))
  go_ret
  exact ⟨rfl,H3.o.2⟩
 by_cases h2:3<a
 ·go_enter Tryz.func8,Tryz.ntmps8
  go_upto_region 1 with fail
  generalize w.alloc (.cells c 30)=w1 at *
  generalize w.heap.size=B at *
  go_wp2_with (first
   | (go_at_call 22;refine (CK.o _ HV.o.2).mono ?_;rintro e w2 ⟨rfl,hg2⟩;have H2:=hid (⟨HV.o.1.grow hg2,HV.o.2.trans hg2⟩:Var w2 B c∧G w w2);clear hg2)
   | ((with_reducible refine jA (.agg c) ?_ ?_);exact jK _ rfl B 0 rfl c hs H2.o.1.lies)
   | (go_at_call 28;refine (CF.o _ H2.o.2).mono ?_;rintro e w3 ⟨rfl,hg3⟩;have H3:=hid (⟨H2.o.1.grow hg3,H2.o.2.trans hg3⟩:Var w3 B c∧G w w3);clear hg3))
  go_ret
  exact ⟨rfl,H3.o.2⟩
 by_cases h3:b<1
 ·go_enter Tryz.func8,Tryz.ntmps8
  go_upto_region 1 with fail
  generalize w.alloc (.cells c 30)=w1 at *
  generalize w.heap.size=B at *
  go_wp2_with (first
   | (go_at_call 22;refine (CK.o _ HV.o.2).mono ?_;rintro e w2 ⟨rfl,hg2⟩;have H2:=hid (⟨HV.o.1.grow hg2,HV.o.2.trans hg2⟩:Var w2 B c∧G w w2);clear hg2)
   | ((with_reducible refine jA (.agg c) ?_ ?_);exact jK _ rfl B 0 rfl c hs H2.o.1.lies)
   | (go_at_call 28;refine (CF.o _ H2.o.2).mono ?_;rintro e w3 ⟨rfl,hg3⟩;have H3:=hid (⟨H2.o.1.grow hg3,H2.o.2.trans hg3⟩:Var w3 B c∧G w w3);clear hg3))
  go_ret
  exact ⟨rfl,H3.o.2⟩
 have h4:3<b:=by omega
 clear hbad
 go_enter Tryz.func8,Tryz.ntmps8
 go_upto_region 1 with fail
 generalize w.alloc (.cells c 30)=w1 at *
 generalize w.heap.size=B at *
 go_wp2_with (first
  | (go_at_call 22;refine (CK.o _ HV.o.2).mono ?_;rintro e w2 ⟨rfl,hg2⟩;have H2:=hid (⟨HV.o.1.grow hg2,HV.o.2.trans hg2⟩:Var w2 B c∧G w w2);clear hg2)
  | ((with_reducible refine jA (.agg c) ?_ ?_);exact jK _ rfl B 0 rfl c hs H2.o.1.lies)
  | (go_at_call 28;refine (CF.o _ H2.o.2).mono ?_;rintro e w3 ⟨rfl,hg3⟩;have H3:=hid (⟨H2.o.1.grow hg3,H2.o.2.trans hg3⟩:Var w3 B c∧G w w3);clear hg3))
 go_ret
 exact ⟨rfl,H3.o.2⟩
theorem sQ (c:Array Value) (hs:c.size=41) (w:World) (a b er:Int) (ha:1≤a∧a≤3) (hb:1≤b∧b≤3) (he:er≠0)
  (CK:Hid (∀ W,G w W→Calls Tryz.prog 22 #[] W fun e w'=>e=.returned (.bool true)∧G W w'))
  (CF:Hid (∀ W,G w W→Calls Tryz.prog 28 #[.agg c] W fun e w'=>e=.returned (.bool true)∧G W w'))
  (CO:Hid (∀ W,G w W→Calls Tryz.prog 29 #[.agg c] W fun e w'=>e=.returned (.tuple #[.pointer none,.int .i64 er])∧G W w')):
  Calls Tryz.prog 8 #[.agg c,.int .i64 a,.int .i64 b] w fun e w'=>e=.returned (.bool true)∧G w w':=by
 have HV:=hid (⟨Var.new w c,G.alloc w (.cells c 30)⟩:Var (w.alloc (.cells c 30)) w.heap.size c∧G w (w.alloc (.cells c 30)))
 have i1:¬ a<1:=by omega
 have i2:¬ (3:Int)<a:=by omega
 have i3:¬ b<1:=by omega
 have i4:¬ (3:Int)<b:=by omega
 have i5:(er !=0)=true:=by simpa using he
 clear ha hb he
 go_enter Tryz.func8,Tryz.ntmps8
 go_upto_region 1 with fail
 generalize w.alloc (.cells c 30)=w1 at *
 generalize w.heap.size=B at *
 go_wp2_with (first
  | (go_at_call 22;refine (CK.o _ HV.o.2).mono ?_;rintro e w2 ⟨rfl,hg2⟩;have H2:=hid (⟨HV.o.1.grow hg2,HV.o.2.trans hg2⟩:Var w2 B c∧G w w2);clear hg2)
  | ((with_reducible refine jA (.agg c) ?_ ?_);exact jK _ rfl B 0 rfl c hs H2.o.1.lies)
  | ((with_reducible refine jA (.agg c) ?_ ?_);exact jK _ rfl B 0 rfl c hs H3.o.1.lies)
  | (go_at_call 29;refine (CO.o _ H3.o.2).mono ?_;rintro e w4 ⟨rfl,hg4⟩;have H4:=hid (H3.o.2.trans hg4);clear hg4)
  | (go_at_call 28;refine (CF.o _ H2.o.2).mono ?_;rintro e w3 ⟨rfl,hg3⟩;have H3:=hid (⟨H2.o.1.grow hg3,H2.o.2.trans hg3⟩:Var w3 B c∧G w w3);clear hg3))
 go_ret
 exact ⟨rfl,H4.o⟩
theorem oK (c:Array Value) (hs:c.size=41) (w:World) (a b er:Int) (A:List Nat) (v Va Vm:Vd) (m Ma Mm:Md) (ks Fa Fm:F) (ha:1≤a∧a≤3) (hb:1≤b∧b≤3)
  (CK:Hid (∀ W,G w W→Calls Tryz.prog 22 #[] W fun e w'=>e=.returned (.bool true)∧G W w'))
  (CF:Hid (∀ W,G w W→Calls Tryz.prog 28 #[.agg c] W fun e w'=>e=.returned (.bool true)∧G W w'))
  (CO:Hid (∀ W,G w W→Calls Tryz.prog 29 #[.agg c] W fun e w'=>∃ p,e=.returned (.tuple #[.pointer (some ⟨p,0,none⟩),.int .i64 0])∧TrF w' p v m ks∧G W w'))
  (CPa:Hid (∀ p W,G w W→TrF W p v m ks→Calls Tryz.prog 30 #[.pointer (some ⟨p,0,none⟩),.int .i64 a] W fun e w'=>∃ q,e=.returned (.pointer (some ⟨q,0,none⟩))∧TrF w' q Va Ma Fa∧G W w'))
  (CPm:Hid (∀ p W,G w W→TrF W p v m ks→Calls Tryz.prog 30 #[.pointer (some ⟨p,0,none⟩),.int .i64 (min a b)] W fun e w'=>∃ q,e=.returned (.pointer (some ⟨q,0,none⟩))∧TrF w' q Vm Mm Fm∧G W w'))
  (CPb:Hid (∀ p W,G w W→TrF W p Va Ma Fa→Calls Tryz.prog 30 #[.pointer (some ⟨p,0,none⟩),.int .i64 b] W fun e w'=>∃ q,e=.returned (.pointer (some ⟨q,0,none⟩))∧TrF w' q Vm Mm Fm∧G W w'))
  (CNa:Hid (∀ p W,G w W→TrF W p Va Ma Fa→Calls Tryz.prog 15 #[.pointer (some ⟨p,0,none⟩)] W fun e w'=>∃ c',e=.returned (.agg c')∧HasN w' c' ⟨#[]⟩ Va Ma Fa∧G W w'))
  (CNm:Hid (∀ p W,G w W→TrF W p Vm Mm Fm→Calls Tryz.prog 15 #[.pointer (some ⟨p,0,none⟩)] W fun e w'=>∃ c',e=.returned (.agg c')∧HasN w' c' ⟨#[]⟩ Vm Mm Fm∧G W w'))
  (CSa:Hid (∀ c d W,HasN W c ⟨#[]⟩ Va Ma Fa→HasN W d ⟨#[]⟩ Va Ma Fa→Calls Tryz.prog 26 #[.agg c,.agg d] W fun e w'=>e=.returned (.bool true)∧G W w'))
  (CSm:Hid (∀ c d W,HasN W c ⟨#[]⟩ Vm Mm Fm→HasN W d ⟨#[]⟩ Vm Mm Fm→Calls Tryz.prog 26 #[.agg c,.agg d] W fun e w'=>e=.returned (.bool true)∧G W w'))
  (CE:Hid (∀ p W,G w W→TrF W p v m ks→Calls Tryz.prog 11 #[.pointer (some ⟨p,0,none⟩),.int .i64 a,.int .i64 1048576] W fun e w'=>∃ x,e=.returned (.tuple #[x,.int .i64 er])∧(er=0→Sl w' x A)∧G W w'))
  (CD:er=0→Hid (∀ u W,G w W→Sl W u A→Calls Tryz.prog 13 #[u,.int .i64 1048576] W fun e w'=>∃ p,e=.returned (.tuple #[.pointer (some ⟨p,0,none⟩),.int .i64 a,.nilIface])∧AtTF w' p Va Ma Fa∧G W w'))
  (CNd:Hid (∀ p W,G w W→AtTF W p Va Ma Fa→Calls Tryz.prog 15 #[.pointer (some ⟨p,0,none⟩)] W fun e w'=>∃ c',e=.returned (.agg c')∧HasN w' c' ⟨#[]⟩ Va Ma Fa∧G W w')):
  Calls Tryz.prog 8 #[.agg c,.int .i64 a,.int .i64 b] w fun e w'=>e=.returned (.bool true)∧G w w':=by
 obtain ⟨mn,hmn⟩:∃ mn,min a b=mn:=⟨_,rfl⟩
 rw [hmn] at CPm
 have HV:=hid (⟨Var.new w c,G.alloc w (.cells c 30)⟩:Var (w.alloc (.cells c 30)) w.heap.size c∧G w (w.alloc (.cells c 30)))
 have i1:¬ a<1:=by omega
 have i2:¬ (3:Int)<a:=by omega
 have i3:¬ b<1:=by omega
 have i4:¬ (3:Int)<b:=by omega
 clear ha hb
 go_enter Tryz.func8,Tryz.ntmps8
 go_upto_region 1 with fail
 generalize w.alloc (.cells c 30)=w1 at *
 generalize w.heap.size=B at *
 go_upto_region 8 with (first
  | (go_at_call 22;refine (CK.o _ HV.o.2).mono ?_;rintro e w2 ⟨rfl,hg2⟩;have H2:=hid (⟨HV.o.1.grow hg2,HV.o.2.trans hg2⟩:Var w2 B c∧G w w2);clear hg2)
  | ((with_reducible refine jA (.agg c) ?_ ?_);exact jK _ rfl B 0 rfl c hs H2.o.1.lies)
  | ((with_reducible refine jA (.agg c) ?_ ?_);exact jK _ rfl B 0 rfl c hs H3.o.1.lies)
  | (go_at_call 28;refine (CF.o _ H2.o.2).mono ?_;rintro e w3 ⟨rfl,hg3⟩;have H3:=hid (⟨H2.o.1.grow hg3,H2.o.2.trans hg3⟩:Var w3 B c∧G w w3);clear hg3)
  | (go_at_call 29;refine (CO.o _ H3.o.2).mono ?_;rintro e w4 ⟨p,rfl,hT,hg4⟩;have H4:=hid (⟨H3.o.2.trans hg4,hT⟩:G w w4∧TrF w4 p v m ks);clear hT hg4))
 go_upto_region 9 with (first
  | (go_at_call_of 30 (Value.int .i64 a);refine (CPa.o p w4 H4.o.1 H4.o.2).mono ?_;rintro e w5 ⟨q,rfl,hT,hg5⟩;have H5:=hid (⟨H4.o.1.trans hg5,H4.o.2.grow hg5,hT⟩:G w w5∧TrF w5 p v m ks∧TrF w5 q Va Ma Fa);clear hT hg5)
  | (go_at_call_of 30 (Value.int .i64 b);refine (CPb.o q w5 H5.o.1 H5.o.2.2).mono ?_;rintro e w6 ⟨q2,rfl,hT,hg6⟩;have H6:=hid (⟨H5.o.1.trans hg6,H5.o.2.1.grow hg6,hT⟩:G w w6∧TrF w6 p v m ks∧TrF w6 q2 Vm Mm Fm);clear hT hg6)
  | (go_at_call_of 30 (Value.int .i64 mn);refine (CPm.o p w6 H6.o.1 H6.o.2.1).mono ?_;rintro e w7 ⟨q3,rfl,hT,hg7⟩;have H7:=hid (⟨H6.o.1.trans hg7,H6.o.2.1.grow hg7,H6.o.2.2.grow hg7,hT⟩:G w w7∧TrF w7 p v m ks∧TrF w7 q2 Vm Mm Fm∧TrF w7 q3 Vm Mm Fm);clear hT hg7))
 go_upto_region 11 with (first
  | (go_at_call_of 15 (Value.pointer (some (⟨q2,0,none⟩:Addr)));refine (CNm.o q2 w7 H7.o.1 H7.o.2.2.1).mono ?_;rintro e w8 ⟨n1,rfl,hn,hg8⟩;have H8:=hid (⟨H7.o.1.trans hg8,H7.o.2.1.grow hg8,H7.o.2.2.2.grow hg8,hn⟩:G w w8∧TrF w8 p v m ks∧TrF w8 q3 Vm Mm Fm∧HasN w8 n1 ⟨#[]⟩ Vm Mm Fm);clear hn hg8)
  | (go_at_call_of 15 (Value.pointer (some (⟨q3,0,none⟩:Addr)));refine (CNm.o q3 w8 H8.o.1 H8.o.2.2.1).mono ?_;rintro e w9 ⟨n2,rfl,hn,hg9⟩;have H9:=hid (⟨H8.o.1.trans hg9,H8.o.2.1.grow hg9,H8.o.2.2.2.below hg9,hn⟩:G w w9∧TrF w9 p v m ks∧HasN w9 n1 ⟨#[]⟩ Vm Mm Fm∧HasN w9 n2 ⟨#[]⟩ Vm Mm Fm);clear hn hg9)
  | (go_at_call 26;refine (CSm.o n1 n2 w9 H9.o.2.2.1 H9.o.2.2.2).mono ?_;rintro e wa ⟨rfl,hga⟩;have Ha:=hid (⟨H9.o.1.trans hga,H9.o.2.1.grow hga⟩:G w wa∧TrF wa p v m ks);clear hga))
 by_cases her:er=0
 case neg=>
  have hb0:(er !=0)=true:=by simpa using her
  go_wp2_with (go_at_call 11;refine (CE.o p wa Ha.o.1 Ha.o.2).mono ?_;rintro e wb ⟨x,rfl,_,hgb⟩;have Hb:=hid (Ha.o.1.trans hgb);clear hgb)
  go_ret
  exact ⟨rfl,Hb.o⟩
 have CD0:=CD her
 clear CD
 subst her
 go_upto_region 14 with (go_at_call 11;refine (CE.o p wa Ha.o.1 Ha.o.2).mono ?_;rintro e wb ⟨x,rfl,hx,hgb⟩;have Hb:=hid (⟨Ha.o.1.trans hgb,Ha.o.2.grow hgb,hx rfl⟩:G w wb∧TrF wb p v m ks∧Sl wb x A);clear hx hgb)
 go_upto_region 15 with (go_at_call 13;refine (CD0.o x wb Hb.o.1 Hb.o.2.2).mono ?_;rintro e wc ⟨p2,rfl,hT,hgc⟩;have Hc:=hid (⟨Hb.o.1.trans hgc,Hb.o.2.1.grow hgc,hT⟩:G w wc∧TrF wc p v m ks∧AtTF wc p2 Va Ma Fa);clear hT hgc)
 go_upto_region 16 with (go_at_call 30;refine (CPa.o p wc Hc.o.1 Hc.o.2.1).mono ?_;rintro e wd ⟨q4,rfl,hT,hgd⟩;have Hd:=hid (⟨Hc.o.1.trans hgd,Hc.o.2.2.grow hgd,hT⟩:G w wd∧AtTF wd p2 Va Ma Fa∧TrF wd q4 Va Ma Fa);clear hT hgd)
 go_wp2_with (first
  | (go_at_call_of 15 (Value.pointer (some (⟨p2,0,none⟩:Addr)));refine (CNd.o p2 wd Hd.o.1 Hd.o.2.1).mono ?_;rintro e we ⟨n3,rfl,hn,hge⟩;have He:=hid (⟨Hd.o.1.trans hge,Hd.o.2.2.grow hge,hn⟩:G w we∧TrF we q4 Va Ma Fa∧HasN we n3 ⟨#[]⟩ Va Ma Fa);clear hn hge)
  | (go_at_call_of 15 (Value.pointer (some (⟨q4,0,none⟩:Addr)));refine (CNa.o q4 we He.o.1 He.o.2.1).mono ?_;rintro e wf ⟨n4,rfl,hn,hgf⟩;have Hf:=hid (⟨He.o.1.trans hgf,He.o.2.2.below hgf,hn⟩:G w wf∧HasN wf n3 ⟨#[]⟩ Va Ma Fa∧HasN wf n4 ⟨#[]⟩ Va Ma Fa);clear hn hgf)
  | (go_at_call 26;refine (CSa.o n3 n4 wf Hf.o.2.1 Hf.o.2.2).mono ?_;rintro e wg ⟨rfl,hgg⟩;have Hg:=hid (Hf.o.1.trans hgg);clear hgg))
 go_ret
 exact ⟨rfl,Hg.o⟩
end Go.Proofs.YtjikkhbcbfpocaaGreatDoor
namespace Go.Proofs.YtjikkhbcbfpocaaGreatDoor
open Go.RowKit Go.Shelf
theorem fS (c:Array Value) (nm:ByteArray) (v:Vd) (m:Md) (ks:F) (w:World) (a b:Int) (hN:HasN w c nm v m ks) (hnm:nm.size≤9223372036854775807) (hok:ks.ok) (hlen:ks.len≤9223372036854775807) (hB:Su.Bytes v.sum) (hb:bytF ks) (hW:Wd w):
  Calls Tryz.prog 8 #[.agg c,.int .i64 a,.int .i64 b] w fun e w'=>e=.returned (.bool true)∧G w w':=by
 have hs:c.size=41:=by obtain ⟨_,rfl,_⟩:=hN;exact jO ..
 have CK:Hid (∀ W,G w W→Calls Tryz.prog 22 #[] W fun e w'=>e=.returned (.bool true)∧G W w'):=fun W hg=>by
  have:=hW.up hg
  exact oI W this.t this.h this.e this.z
 have CF:=fun W (hg:G w W)=>sM c nm v m ks W (hN.below hg) hnm hok hlen
 by_cases hf:1+nm.size+ks.weight≤20000
 case neg=>
  rw [decide_eq_false hf] at CF
  exact sO c hs w a b CK CF
 rw [decide_eq_true hf] at CF
 by_cases hr:a<1∨3<a∨b<1∨3<b
 ·exact sP c hs w a b hr CK CF
 have ha:1≤a∧a≤3:=by omega
 have hb':1≤b∧b≤3:=by omega
 have hm:1≤min a b∧min a b≤3:=by omega
 have CO:=fun W (hg:G w W)=>cY c nm v m ks W (hN.below hg) (by omega)
 by_cases hc:qL v m ks=0
 case neg=>
  exact sQ c hs w a b (qL v m ks) ha hb' hc CK CF fun W hg=>(CO W hg).mono fun e w' ⟨u,q1,q2,q3⟩=>by
   rcases q3 with ⟨_,rfl⟩ | ⟨q,_⟩
   ·exact ⟨q1,q2⟩
   ·exact absurd q hc
 have hw:ks.weight≤20000:=by omega
 have hz:ks.size≤20000:=Nat.le_trans (F.size_le_weight _) hw
 have CP:∀ (x:Int) (p:Nat) W,G w W→TrF W p v m ks→Calls Tryz.prog 30 #[.pointer (some ⟨p,0,none⟩),.int .i64 x] W fun e w'=>∃ q,e=.returned (.pointer (some ⟨q,0,none⟩))∧TrF w' q (pv x v) (pm x m) (ks.mp (pv x) (pm x))∧G W w':=fun x p W _ ⟨k,h1,h2,h3⟩=>by
  have h:=cO x k p v m W h1 h3 (by rw [h2];exact hc) (by rw [h2];exact hw)
  rw [h2] at h
  exact h.mono fun e w' ⟨u,q1,p',k',q2,q3,q4,q5,q6⟩=>⟨p',by rw [q1,q2],⟨k',q3,q4,q5⟩,q6⟩
 have hca:qL (pv a v) (pm a m) (ks.mp (pv a) (pm a))=0:=by
  by_cases hv:a=1∨a=2
  ·have e1:pm a m=Md.zero:=if_pos hv
   have e2:ks.mp (pv a) (pm a)=ks.mp (pv a) noM:=F.yd (fun _=>rfl) (fun _=>if_pos hv) _
   rw [e1,e2]
   exact gK a hc
  ·have e1:pm a m=m:=if_neg hv
   have e0:∀ v,pv a v=v:=fun v=>if_neg fun h=>hv (.inl h)
   have e2:ks.mp (pv a) (pm a)=ks:=F.mp_id e0 (fun _=>if_neg hv) _
   rw [e1,e2,e0]
   exact hc
 have CPb:∀ (p:Nat) W,G w W→TrF W p (pv a v) (pm a m) (ks.mp (pv a) (pm a))→Calls Tryz.prog 30 #[.pointer (some ⟨p,0,none⟩),.int .i64 b] W fun e w'=>∃ q,e=.returned (.pointer (some ⟨q,0,none⟩))∧TrF w' q (pv (min a b) v) (pm (min a b) m) (ks.mp (pv (min a b)) (pm (min a b)))∧G W w':=fun p W _ ⟨k,h1,h2,h3⟩=>by
  have h:=cO b k p _ _ W h1 h3 (by rw [h2];exact hca) (by rw [h2,F.mp_weight];exact hw)
  rw [h2,a0V ha.1 hb'.1,a0W ha hb',F.pj_pj ha hb'] at h
  exact h.mono fun e w' ⟨u,q1,p',k',q2,q3,q4,q5,q6⟩=>⟨p',by rw [q1,q2],⟨k',q3,q4,q5⟩,q6⟩
 have node:∀ (V:Vd) (M:Md) (f:F),f.size≤100000→∀ (p:Nat) W,AtTF W p V M f→Calls Tryz.prog 15 #[.pointer (some ⟨p,0,none⟩)] W fun e w'=>∃ c',e=.returned (.agg c')∧HasN w' c' ⟨#[]⟩ V M f∧G W w':=fun V M f hs p W ⟨k,h1,h2⟩=>by
  have h5:=zb _ k (Nat.lt_succ_self _) p _ _ W h1 (by rw [h2];exact hs)
  rw [h2] at h5
  exact h5.mono fun e w' ⟨c',h6,h7,h8⟩=>⟨c',h6,h7.has,h8⟩
 have szp:∀ x,(ks.mp (pv x) (pm x)).size≤100000:=fun x=>by rw [F.mp_size];omega
 have okp:∀ x,(ks.mp (pv x) (pm x)).okL:=fun x=>F.okL_of_weight _ (by rw [F.mp_weight];omega)
 obtain ⟨n,hn⟩:∃ n:Nat,a=n:=⟨a.toNat,by omega⟩
 obtain ⟨er,her⟩:∃ er,encE a v.kind (1+ks.size:Nat) 1048576=er:=⟨_,rfl⟩
 have hk:er=0→v.kind=1:=fun q=>by
  rw [q] at her
  by_cases h:v.kind=1
  ·exact h
  ·unfold encE at her
   rw [if_neg (by omega),if_pos h] at her
   cases her
 refine oK c hs w a b er (arcW n (wrV n v) m (wrF n ks)) v (pv a v) (pv (min a b) v) m (pm a m) (pm (min a b) m) ks (ks.mp (pv a) (pm a)) (ks.mp (pv (min a b)) (pm (min a b))) ha hb' CK CF
  (fun W hg=>(CO W hg).mono fun e w' ⟨u,q1,q2,q3⟩=>by
   rw [hc] at q1 q3
   rcases q3 with ⟨q,_⟩ | ⟨_,p,k,rfl,h3,h4,_,h5⟩
   ·exact absurd rfl q
   ·exact ⟨p,q1,⟨k,h3,h4,h5⟩,q2⟩)
  (CP a) (CP (min a b)) CPb
  (fun p W _ ⟨k,h1,h2,_⟩=>node _ _ _ (szp a) p W ⟨k,h1,h2⟩) (fun p W _ ⟨k,h1,h2,_⟩=>node _ _ _ (szp (min a b)) p W ⟨k,h1,h2⟩)
  (fun c1 c2 W h1 h2=>aQ c1 c2 _ _ _ _ W h1 h2 (okp a)) (fun c1 c2 W h1 h2=>aQ c1 c2 _ _ _ _ W h1 h2 (okp (min a b)))
  ?_ ?_ (fun p W _ h=>node _ _ _ (szp a) p W h)
 ·intro p W hg ⟨k,h1,h2,_⟩
  have hcc:=bi (jn hc).1 hB
  have hgg:=yk (jn hc).2 hb
  have CE:=zW p v m k W a 1048576 h1 hcc (by rw [h2];exact hgg.1) (by rw [h2];exact hgg.2) (by rw [h2];omega) (by rw [h2];omega) (by rw [h2];exact xe hc) (hW.up hg).t (hW.up hg).h
  rw [h2,her] at CE
  refine CE.mono ?_
  rintro e w' (⟨hne,rfl,hg5⟩ | ⟨h0,u,rfl,hu,hg5⟩)
  ·exact ⟨_,rfl,fun q=>absurd q hne,hg5⟩
  ·refine ⟨u,by rw [h0],fun _=>?_,hg5⟩
   have hh:=hu.has
   rw [hn] at hh
   exact Sl.of hh (wU _ _ _ _)
 ·intro q0 u W hg hu
  subst hn
  have hA:Ar n (wrV n v) m (wrF n ks):=wrAr (by omega) (by omega) (hk q0) hc hB hb hw
  have h:=hA.arc (most:=1048576) (hW.up hg) (by rw [wrFz];have:=iN 1048576;omega) hu
  rw [sR ha.1,wX ha,a0X ha] at h
  exact h
end Go.Proofs.YtjikkhbcbfpocaaGreatDoor
namespace Go.Proofs.YtjikkhbcbfpocaaGreatDoor.TwiceR
open Go.ChangeShapes Go.WideShapes Go.ChangeAt Go.RowKit Fr6
theorem contract (H:Type) (enc:TypeId × Value→H) (W:World) (base:Nat) (args:Array Value) (ds gs:List (DataW H)) (before:List MemPlace)
  (hval:∀ (j:Nat) t v,Tryz.f8.params[j]?=some t→args[j]?=some v→Value.okWide Tryz.prog W .any base t v)
  (hW:DataW.Whole enc Tryz.prog Tryz.f8.params.toList Rows.liftTwiceSpec.vars false W args.toList ds gs before) (hL:laidMetH Tryz.prog Rows.liftTwiceRow.laid W):
  Calls Tryz.prog 8 args W fun e W'=>∃ v,e=.returned v∧Rows.liftTwiceSpec.post enc Tryz.prog Tryz.f8 false true false false W args v W':=by
 have hW':=hW
 obtain ⟨p,q,hA0,hV,rfl,hfz,hnd⟩:=hW
 have hA:DataW.TrodAll enc Tryz.prog W 0 (fun _=>true) true Tryz.f8.params.toList args.toList ds p:=hA0
 rw [Tryz.params8] at hA hval
 obtain ⟨v0,vs0,d0,ds0,p0,q0,hargs,rfl,rfl,h0,r0⟩:=trodAll_cons hA
 obtain ⟨v1,vs1,d1,ds1,p1,q1,rfl,rfl,rfl,h1,r1⟩:=trodAll_cons r0
 obtain ⟨v2,vs2,d2,ds2,p2,q2,rfl,rfl,rfl,h2,r2⟩:=trodAll_cons r1
 obtain ⟨rfl,rfl,rfl⟩:=trodAll_nil r2
 obtain rfl:args=#[v0,v1,v2]:=by cases args;simp_all
 obtain ⟨rfl,rfl⟩:=trodVars_none hV
 obtain ⟨c0,rfl,hc0⟩:=okWide_struct qe (hval 0 30 v0 rfl rfl)
 obtain ⟨a1,rfl,rfl,rfl,w1⟩:=open_int Tryz.underlying3 (hval 1 3 v1 rfl rfl) h1
 obtain ⟨a2,rfl,rfl,rfl,w2⟩:=open_int Tryz.underlying3 (hval 2 3 v2 rfl rfl) h2
 have k0:=h0
 have lt0:∀ x∈p0,x.block<W.heap.size:=by obtain ⟨m,hm⟩:=k0;exact DataW.trod_lt m _ _ _ hm
 obtain ⟨fuel,hf⟩:=h0
 obtain ⟨⟨nm,v,m,ks⟩,kv,hcs,hS,hnm,hok,hlen,hb1,hb2⟩:=vm fuel _ _ hf
 have hcc:c0=nc nm v m kv:=by
  have h1:c0.toList=(nc nm v m kv).toList:=hcs
  exact Array.toList_inj.1 h1
 clear hA0
 obtain ⟨hTb,hTh,hE⟩:=vU hL
 refine (fS c0 nm v m ks W a1 a2 ⟨kv,hcc,hS⟩ hnm hok hlen hb1 hb2 ⟨hTb,hTh,hE,by have:=hTb.size;omega⟩).mono fun e W' ⟨he,bel⟩=>?_
 subst he
 exact ⟨_,rfl,_,_,_,[],_,[],hW',trodAll_mk1 (shut_bool Tryz.underlying4 _),(trodAll_cons_mk (Below.trod laidOut (by kernel_rfl) (of_decide_eq_true (by kernel_rfl)) k0 bel lt0) (trodAll_cons_mk (shut_int Tryz.underlying3 w1) (trodAll_cons_mk (shut_int Tryz.underlying3 w2) trodAll_mk0))),rfl,bel.frame _,fun h=>by cases h⟩
theorem uQ (os:Os):laidMetH Tryz.prog Rows.liftTwiceRow.laid ((aA os).forCall (fun _ _=>0) ⟨#[],#[.agg z30,.int .i64 0,.int .i64 0],[]⟩).memory:=laid4 os _
theorem reads (os:Os) {H:Type} (enc:TypeId × Value→H):∃ x,DataW.whole enc Tryz.prog ((aA os).forCall (fun _ _=>0) ⟨#[],#[.agg z30,.int .i64 0,.int .i64 0],[]⟩).memory Tryz.f8.params.toList Rows.liftTwiceSpec.vars false #[Value.agg z30,.int .i64 0,.int .i64 0].toList 8=some x:=
 Option.isSome_iff_exists.1 (by kernel_rfl)
theorem lifted (os:Os) (started:os.Started) (H:Type) (enc:TypeId × Value→H) (F:Stop.Interp):
  ReturnsInHanded {} Tryz.checked os 8 .any ((OpenSpec.ofChange Rows.liftTwiceSpec).preRow enc Tryz.prog Tryz.f8 Rows.liftTwiceRow.domain false Rows.liftTwiceRow.laid) (((OpenSpec.ofChange Rows.liftTwiceSpec).at F).post enc Tryz.prog Tryz.f8 false true false false):=by
 obtain ⟨x,hx⟩:=reads os enc
 refine returnsInHanded_of_row (C:=Tryz.checked) (s:=OpenSpec.ofChange Rows.liftTwiceSpec) own started (by kernel_rfl) Tryz.func8
  (witness_row_at (enc:=enc) (C:=Tryz.checked) false (aA os) #[.agg z30,.int .i64 0,.int .i64 0] rfl (by kernel_rfl) (by kernel_rfl) (by kernel_rfl)
   (OpenSpec.preRow_of_cond 8 hx (by kernel_rfl) (fun k hk=>by cases hk) (by kernel_rfl) (uQ os))) ?_
 intro W base args ds gs before hval hW _ _ _ hL _ _
 exact contract H enc W base args ds gs before hval hW hL
theorem said:Rows.LiftTwiceSaid:=
 OpenClaim.holds_of_cond 8 Tryz.f8 rfl rfl rfl rfl rfl rfl rfl ⟨rfl,rfl,rfl,rfl,rfl⟩ rfl rfl rfl rfl rfl (by kernel_rfl) Tryz.func8 (by kernel_rfl)
  (of_decide_eq_true (by kernel_rfl)) (by unfold Func.isWrapper;first | (rw [if_pos (by decide +kernel)];kernel_rfl) | (rw [if_neg (by decide +kernel)];exact ⟨rfl,rfl⟩))
  (fun os started H enc _ F=>by rw [OpenClaim.pre_eq_preRow];exact lifted os started H enc F)
theorem plain (f : FuncId) (fn : Func) (hf : Tryz.pinned.checked.prog.funcNamed "twine/twinelaw7.LiftTwice" = some f) (hfn : Tryz.pinned.checked.prog.funcs[f]? = some fn) :
  true=Tryz.pinned.checked.prog.looks []∧∀ (j:Nat) t,fn.params[j]?=some t→Tryz.pinned.checked.prog.wantsStandIn t=false:=by
 obtain rfl : f = 8 := Option.some.inj ((show Tryz.prog.funcNamed "twine/twinelaw7.LiftTwice" = some 8 by kernel_rfl).symm.trans hf) |>.symm
 obtain rfl:fn=Tryz.f8:=(Option.some.inj (Tryz.func8.symm.trans hfn)).symm
 refine ⟨by kernel_rfl,fun j t ht=>?_⟩
 rw [Tryz.params8] at ht
 have h:t=30∨t=3∨t=3:=by simpa using Array.mem_of_getElem? ht
 rcases h with rfl | rfl | rfl
 ·exact (show Tryz.prog.wantsStandIn 30=false by kernel_rfl)
 ·exact (show Tryz.prog.wantsStandIn 3=false by kernel_rfl)
 ·exact (show Tryz.prog.wantsStandIn 3=false by kernel_rfl)
end Go.Proofs.YtjikkhbcbfpocaaGreatDoor.TwiceR
namespace Go.Proofs.YtjikkhbcbfpocaaGreatDoor
theorem liftTwice_card:Rows.LiftTwiceCardSaid:=
 Claim7.holds_tied_plain_at .later [] _ _ _ _ TwiceR.said (fun _ h=>by cases h) (by kernel_rfl) (fun _ h=>by cases h) liftTwice_row_tie rfl ⟨rfl,rfl⟩ (by kernel_rfl) rfl TwiceR.plain (by kernel_rfl)
#print axioms liftTwice_card
end Go.Proofs.YtjikkhbcbfpocaaGreatDoor
