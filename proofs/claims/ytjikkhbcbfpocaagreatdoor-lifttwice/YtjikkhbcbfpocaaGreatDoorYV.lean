import Derived.Test.YtjikkhbcbfpocaaGreatDoorYM
set_option maxRecDepth 100000
set_option maxHeartbeats 4000000
namespace Go.Proofs.YtjikkhbcbfpocaaGreatDoor
open Go.RowKit
end Go.Proofs.YtjikkhbcbfpocaaGreatDoor
namespace Go.Proofs.YtjikkhbcbfpocaaGreatDoor.Wi
open Go.RowKit Wire
end Go.Proofs.YtjikkhbcbfpocaaGreatDoor.Wi
namespace Go.Proofs.YtjikkhbcbfpocaaGreatDoor
open Go.RowKit Go.Shelf
attribute [local go_sem] Oper.semAt_some
theorem fP (tmps:Array Value) (w:World) (g:Nat) (cs:Array Value) (hp:tmps.getD 2 undef=.pointer (some ⟨g,0,none⟩)) (hg:w.heap[g]?=some (.cells cs 49 (0,0))) (hi:cs.size=3):
  (results Tryz.f25 tmps).run Tryz.prog w=.ok (.tuple #[.agg cs,tmps.getD 3 undef]) w:=by
 have hp':tmps[2]?.getD undef=.pointer (some ⟨g,0,none⟩):=by simpa using hp
 have hr:Tryz.f25.results=#[.cell 2 49,.tmp 3]:=rfl
 simp [results,hp',asAddr,run_loadVar_row w g 49 49 cs (0,0) _ hg Tryz.underlying49 rfl (by rw [siz49,hi])]
theorem oH (fb:Nat) (p e:Int) (s:ByteArray) (w:World) (h:w.heap[fb]?=some (.cells (fc p s e) 93 (0,0))) (he:e≠0):
  Calls Tryz.prog 25 #[.iface 72 (.pointer (some ⟨fb,0,none⟩))] w fun x w'=>x=.returned (.tuple #[.agg (fc p s e),.bool true])∧G w w':=by
 have hta:=assert72
 have heb:(e==0)=false:=by simpa using he
 have hlt:fb<w.heap.size:=(gS h)
 have hne:fb≠w.heap.size:=by omega
 have h':∀ o:Obj,(w.alloc o).heap[fb]?=some (.cells (fc p s e) 93 (0,0)):=fun o=>(Below.heap_alloc _ _ _ hlt).trans h
 have h0:(w.alloc (.cells #[.int .i64 0,.string ⟨#[]⟩,.int .i64 0] 49)).cell? ⟨fb,0,none⟩=some (.int .i64 p):=by simp [World.cell?,h',fc]
 have h1:(w.alloc (.cells #[.int .i64 0,.string ⟨#[]⟩,.int .i64 0] 49)).cell? ⟨fb,1,none⟩=some (.string s):=by simp [World.cell?,h',fc]
 have h2:(w.alloc (.cells #[.int .i64 0,.string ⟨#[]⟩,.int .i64 0] 49)).cell? ⟨fb,2,none⟩=some (.int .i64 e):=by simp [World.cell?,h',fc]
 clear h h' he
 go_enter Tryz.func25,Tryz.ntmps25
 go_wp2
 refine wp_region_still_tail 13 Wi.Tryz.mixed (by kernel_rfl) ?_
 change wpStill _ _ (World.drew _) (fun a'=>wpList _ _ _ _ a' (World.drew _)) _ _
 simp only [List.take_succ_cons,List.take_zero,List.drop_succ_cons,List.drop_zero]
 repeat still_step
 refine wpStill_nil ?_
 go_wp2
 refine bodyPost_ret (fP _ _ w.heap.size (fc p s e) rfl (World.alloc_heap_new w _) rfl) rfl ⟨rfl,(G.alloc _ _).trans (G.drew _)⟩
theorem aQ (c d:Array Value) (nm:ByteArray) (v:Vd) (m:Md) (ks:F) (w:World) (h1:HasN w c nm v m ks) (h2:HasN w d nm v m ks) (hl:ks.okL):
  Calls Tryz.prog 26 #[.agg c,.agg d] w fun e w'=>e=.returned (.bool true)∧G w w':=by
 have TB:=fo w c d
 have B1:G w ((w.alloc (.cells c 30)).alloc (.cells d 30)):=(G.alloc _ _).trans (G.alloc _ _)
 have CE:=pC _ ks (Nat.lt_succ_self _) nm nm v v m m ks c d _ (h1.below B1) (h2.below B1) hl hl
 have s1:c.size=41:=by obtain ⟨kv1,rfl,_⟩:=h1;exact jO ..
 have s2:d.size=41:=by obtain ⟨kv1,rfl,_⟩:=h2;exact jO ..
 have n1:((w.alloc (.cells c 30)).alloc (.cells d 30)).cell? ⟨w.heap.size,0,none⟩=some (.string nm):=by
  obtain ⟨kv1,rfl,_⟩:=h1
  exact TB.1 0 _ (kY ..)
 have n2:((w.alloc (.cells c 30)).alloc (.cells d 30)).cell? ⟨w.heap.size+1,0,none⟩=some (.string nm):=by
  obtain ⟨kv1,rfl,_⟩:=h2
  exact TB.2 0 _ (kY ..)
 rw [decide_eq_true ⟨rfl,rfl,rfl⟩] at CE
 have HT:=hid (⟨TB,B1⟩:_∧_)
 clear h1 h2 TB B1
 go_enter Tryz.func26,Tryz.ntmps26
 go_upto_region 1 with fail
 generalize (w.alloc (.cells c 30)).alloc (.cells d 30)=w1 at *
 generalize w.heap.size=H at *
 go_wp2_with (first
  | (with_reducible refine jA (.agg c) ?_ ?_;exact jK _ rfl H 0 rfl c s1 HT.o.1.1)
  | (with_reducible refine jA (.agg d) ?_ ?_;exact jK _ rfl (H+1) 0 rfl d s2 HT.o.1.2)
  | (go_at_call 38;refine CE.mono ?_;rintro e w2 ⟨rfl,hb⟩;have HB:=hid hb;clear hb CE))
 go_ret
 exact ⟨rfl,G.trans HT.o.2 HB.o⟩
def MgP (ver:Nat) (v:Vd) (m:Md) (ks:F) (tv:Int) (w:World) (e:Ending) (w':World):Prop:=G w w'∧
 (((tv<ver∨3<tv)∧∃ fb,e=.returned (.tuple #[.slice none 0 0,.iface 72 (.pointer (some ⟨fb,0,none⟩))])∧w'.heap[fb]?=some (.cells (fc 4 ⟨#[]⟩ 70) 93 (0,0)))∨
 (¬ (tv<ver∨3<tv)∧∃ x,e=.returned (.tuple #[x,.nilIface])∧Su.Has w' x (arcW tv.toNat v (mz ver m) (ks.mp id (mz ver)))))
theorem dG (u:Value) {ver:Nat} {v:Vd} {m:Md} {ks:F} (tv most:Int) (w:World) (h:Ar ver v m ks) (hb:1+ks.size≤bnd most) (hu:Su.Has w u (arcW ver v m ks)) (hTb:Su.Tabs w) (hTh:Su.Half w) (hE:ErrT w) (h1:1<w.heap.size):
  Calls Tryz.prog 24 #[u,.int .i64 tv,.int .i64 most] w (MgP ver v m ks tv w):=by
 have CD:=hid (eT u w h hb hu hTb hTh hE h1)
 obtain ⟨ua,ul,uc,rfl⟩:∃ a l cap,u=.slice a l cap:=by
  rcases hu with ⟨e1,_⟩ | ⟨a,cap,e1,_,_⟩
  ·exact ⟨_,_,_,e1⟩
  ·exact ⟨_,_,_,e1⟩
 by_cases hbad:tv<ver∨3<tv
 ·clear hTb hTh hE h1 hu
  rcases hbad with hbd | hbd
  ·go_enter Tryz.func24,Tryz.ntmps24
   go_wp2_with (go_at_call 13;refine CD.o.mono ?_;rintro e w2 ⟨p,k,rfl,q1,q2,q3⟩;have H2:=hid q1;clear q1 q2 q3)
   go_ret2
   exact ⟨H2.o.trans (G.alloc _ _),.inl ⟨.inl hbd,_,rfl,World.alloc_heap_new _ _⟩⟩
  ·have hb2:¬ tv<(ver:Int):=by have:=h.h3;omega
   have hres:Hid (tv<ver∨3<tv):=.inr hbd
   go_enter Tryz.func24,Tryz.ntmps24
   go_wp2_with (go_at_call 13;refine CD.o.mono ?_;rintro e w2 ⟨p,k,rfl,q1,q2,q3⟩;have H2:=hid q1;clear q1 q2 q3)
   go_ret2
   exact ⟨H2.o.trans (G.alloc _ _),.inl ⟨hres.o,_,rfl,World.alloc_heap_new _ _⟩⟩
 ·have hb1:¬ tv<(ver:Int):=by omega
  have hb2:¬ (3:Int)<tv:=by omega
  have hT:(ver:Int)≤tv:=by omega
  have hA:=h.later (tv:=tv.toNat) (by omega) (by omega)
  have hc:=bi (jn hA.hc).1 hA.hB
  have hg:=yk (jn hA.hc).2 hA.hb
  have hsz:=Nat.le_trans (F.size_le_weight _) hA.hw
  have hBad:=hid hbad
  have CE:Hid (∀ (p:Nat) (k:K) (W:World),G w W→AtT W p v (mz ver m) k→k.flat=ks.mp id (mz ver)→Calls Tryz.prog 11 #[.pointer (some ⟨p,0,none⟩),.int .i64 tv,.int .i64 most] W fun e w'=>∃ x,e=.returned (.tuple #[x,.int .i64 0])∧Su.Has w' x (arcW tv.toNat v (mz ver m) (ks.mp id (mz ver)))∧G W w'):=fun p k W hgw hAt hk=>by
   refine (zW p v (mz ver m) k W tv most hAt hc (by rw [hk];exact hg.1) (by rw [hk];exact hg.2) (by rw [hk];omega) (by rw [hk];have:=hA.hw;omega) (by rw [hk];exact xe hA.hc) (hTb.up hgw) (hTh.below hgw (by omega))).mono ?_
   rintro e w' q
   have h0:encE tv v.kind (1+k.flat.size:Nat) most=0:=by rw [hk];exact h.enc hT (by omega) hb
   rcases q with ⟨q,_⟩ | ⟨_,x,q1,q2,q3⟩
   ·exact absurd h0 q
   ·have e1:arcW tv.toNat (wrV tv v) (mz ver m) (wrF tv k.flat)=arcW tv.toNat v (mz ver m) (ks.mp id (mz ver)):=by rw [hk,h.wv tv hT,h.wf tv hT]
    rw [e1] at q2
    exact ⟨x,q1,q2.has,q3⟩
  clear hTb hTh hE h1 hu hA hc hg hsz hT hbad h hb
  go_enter Tryz.func24,Tryz.ntmps24
  go_wp2_with (first
   | (go_at_call 13;refine CD.o.mono ?_;rintro e w2 ⟨p,k,rfl,q1,q2,q3⟩;have H2:=hid (⟨q1,q2,q3⟩:_∧_∧_);clear q1 q2 q3)
   | (go_at_call 11;refine (CE.o p k w2 H2.o.1 H2.o.2.1 H2.o.2.2).mono ?_;rintro e w3 ⟨x,rfl,r1,r2⟩;have H3:=hid (⟨r1,r2⟩:_∧_);obtain ⟨xa,xl,xc,hxs⟩:∃ a l cap,x=.slice a l cap:=(by rcases r1 with ⟨e1,_⟩ | ⟨a,cap,e1,_,_⟩<;>exact ⟨_,_,_,e1⟩);subst hxs;clear r1 r2))
  go_ret2
  exact ⟨H2.o.1.trans H3.o.2,.inr ⟨hBad.o,_,rfl,H3.o.1⟩⟩
def twn:List Nat:=[116,119,110,101]
theorem sN {w:World} {a:Addr} {cap q:Nat} {l:List Nat} (h:Su.Has w (.slice (some a) l.length cap) l) (hc:l.length≤cap) (hq:q≤l.length):Su.Has w (.slice (some a) q cap) (l.take q):=by
 have hl:(l.take q).length=q:=by rw [List.length_take];omega
 rcases h with ⟨e,_⟩ | ⟨a',cap',e,_,h6⟩
 ·cases e
 ·rw [Value.slice.injEq,Option.some.injEq] at e
  obtain ⟨rfl,_,rfl⟩:=e
  refine .inr ⟨a,cap,by rw [hl],by rw [hl];omega,fun i hi=>?_⟩
  rw [hl] at hi
  rw [h6 i (by omega),List.getD_eq_getElem?_getD,List.getD_eq_getElem?_getD,List.getElem?_take_of_lt hi]
theorem oJ (a:Addr) (cap:Nat) (l:List Nat) (g:Addr) (w:World) (h:Su.Has w (.slice (some a) l.length cap) l) (hc:l.length≤cap) (h5:4<l.length) (_hB:Su.Bytes l) (ht:l.take 4=twn) (hg:Su.Has w (.slice (some g) 4 4) twn):
  Calls Tryz.prog 108 #[.slice (some a) l.length cap,.slice (some g) 4 4] w fun e w'=>e=.returned (.bool true)∧w'=w:=by
 have hf:=sN h hc (q:=4) (by omega)
 rw [ht] at hf
 have hTB:Su.Bytes twn:=fun x hx=>by simp [twn] at hx;omega
 have CE:=bg _ _ twn twn w hf hg hTB hTB
 rw [decide_eq_true rfl] at CE
 obtain ⟨n,hn⟩:∃ n,l.length=n:=⟨_,rfl⟩
 rw [hn] at h5 hc ⊢
 have CE:=hid CE
 have hcI:¬ (cap:Int)<4:=by omega
 have h4:(4:Int)≤(n:Int):=by omega
 have h4c:4≤cap:=by omega
 clear h hf hg ht _hB hTB hn
 go_enter Tryz.func108,Tryz.ntmps108
 go_wp2_with (go_at_call 64;refine CE.o.mono ?_;rintro e w2 ⟨rfl,rfl⟩)
 go_ret
 exact ⟨rfl,rfl⟩
theorem wV (a:Addr) (cap:Nat) (l:List Nat) (g:Addr) (w:World) (h:Su.Has w (.slice (some a) l.length cap) l) (hc:l.length≤cap) (h5:4<l.length) (hB:Su.Bytes l) (ht:l.take 4=twn) (hg:Su.Has w (.slice (some g) 4 4) twn):
  Calls Tryz.prog 73 #[.slice (some a) l.length cap,.slice (some g) 4 4] w fun e w'=>e=.returned (.tuple #[.slice (some (a.add 4)) (l.length-4) (cap-4),.bool true])∧w'=w:=by
 have CP:=hid (oJ a cap l g w h hc h5 hB ht hg)
 obtain ⟨n,hn⟩:∃ n,l.length=n:=⟨_,rfl⟩
 rw [hn] at h5 hc CP ⊢
 have h4:(4:Int)≤(n:Int):=by omega
 have h4n:4≤n:=by omega
 have h4c:¬ cap=4:=by omega
 clear h hg ht hB hn
 go_enter Tryz.func73,Tryz.ntmps73
 go_wp2_with (go_at_call 108;refine CP.o.mono ?_;rintro e w2 ⟨rfl,rfl⟩)
 go_ret2
 exact ⟨rfl,rfl⟩
theorem wW (W:World):Su.Has (W.alloc (.cells #[.int .u8 116,.int .u8 119,.int .u8 110,.int .u8 101] 5 (4,5))) (.slice (some ⟨W.heap.size,0,none⟩) 4 4) twn:=by
 refine .inr ⟨⟨W.heap.size,0,none⟩,4,rfl,Nat.le_refl _,fun i hi=>?_⟩
 have hi:i<4:=hi
 rw [Su.kj,Nat.zero_add,World.cell?_alloc_mark]
 match i,hi with
 | 0,_ | 1,_ | 2,_ | 3,_=>rfl
theorem lV (a:Addr) (cap ver:Nat) (l:List Nat) (w:World) (h:Su.Has w (.slice (some a) l.length cap) l) (hc:l.length≤cap) (h5:4<l.length) (hB:Su.Bytes l) (ht:l.take 4=twn) (hv:l.getD 4 0=ver) (h1:1≤ver) (h3:ver≤3):
  Calls Tryz.prog 45 #[.slice (some a) l.length cap] w fun e w'=>e=.returned (.tuple #[.int .i64 (ver:Int),.bool true])∧G w w':=by
 have hG:G w (w.alloc (.cells #[.int .u8 116,.int .u8 119,.int .u8 110,.int .u8 101] 5 (4,5))):=G.alloc _ _
 have hh:=h.below hG
 have CC:=hid (wV a cap l ⟨w.heap.size,0,none⟩ _ hh hc h5 hB ht (wW w))
 have hcell:(w.alloc (.cells #[.int .u8 116,.int .u8 119,.int .u8 110,.int .u8 101] 5 (4,5))).cell? (a.add 4)=some (.int .u8 (ver:Int)):=by
  rcases hh with ⟨e,_⟩ | ⟨a',cap',e,_,h6⟩
  ·cases e
  ·rw [Value.slice.injEq,Option.some.injEq] at e
   obtain ⟨rfl,_,rfl⟩:=e
   rw [h6 4 h5,hv]
   rfl
 obtain ⟨B3,hB3⟩:∃ B3,w.heap.size=B3:=⟨_,rfl⟩
 have kc:=Lib.run_convert_bytes_const (P:=Tryz.prog) w 35 5 #[.int .u8 116,.int .u8 119,.int .u8 110,.int .u8 101] 4 4 Tryz.underlying35 Tryz.underlying5
 rw [hB3] at kc CC
 obtain ⟨n,hn⟩:∃ n,l.length=n:=⟨_,rfl⟩
 rw [hn] at h5 hc CC ⊢
 have hz:(((n-4:Nat):Int)==0)=false:=by simp;omega
 have hz2:¬ n-4=0:=by omega
 have hz3:¬ n-4≤0:=by omega
 have hz4:¬ ((n-4:Nat):Int)≤0:=by omega
 have hw8:IntKind.i64.wrap (ver:Int)=(ver:Int):=by rw [IntKind.wrap_i64];omega
 have i1:¬ (ver:Int)<1:=by omega
 have i3:¬ (3:Int)<(ver:Int):=by omega
 have HG:=hid hG
 have hc4:(w.alloc (.cells #[.int .u8 116,.int .u8 119,.int .u8 110,.int .u8 101] 5 (4,5))).cell? { block:=a.block,off:=a.off+4 }=some (.int .u8 (ver:Int)):=hcell
 clear h hh hB ht hv hn hG h1 h3 hcell
 go_enter Tryz.func45,Tryz.ntmps45
 go_upto_region 2 with (first
  | (go_at_call 73;refine CC.o.mono ?_;rintro e w2 ⟨rfl,rfl⟩))
 go_wp2_with fail
 go_ret2
 exact ⟨rfl,HG.o⟩
end Go.Proofs.YtjikkhbcbfpocaaGreatDoor
