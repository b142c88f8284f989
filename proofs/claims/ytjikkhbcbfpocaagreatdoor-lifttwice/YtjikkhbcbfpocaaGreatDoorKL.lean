import Derived.Test.YtjikkhbcbfpocaaGreatDoorKC
import Derived.Lib.SlBytesConst
set_option maxRecDepth 100000
set_option maxHeartbeats 8000000
namespace Go.Proofs.YtjikkhbcbfpocaaGreatDoor
open Go.RowKit Go.Shelf
attribute [local go_sem] Oper.semAt_some
theorem nI {lo X:Nat} {b nm cb:List Nat} {ver:Int} {hs hs0:List (List Nat)} {M:Nat→Prop} {w:World} {x:Value} (p:Nat) (v:Vd) (m:Md) (k:K) (hT:AtT w p v m k) (hk:v.kind=1) (hS:Ws lo X b ver hs0 M w) (hxM:∀ W,Fr M w W→Su.Has W x nm) (hmd:0≤v.mode∧v.mode<256) (hl:b.length+nm.length+100≤16777216)
  (CC:∀ (b':List Nat) (M':Nat→Prop) (W:World),Fr M w W→Ws lo X b' ver hs0 M' W→b'.length=b.length+(1+(nm.length+(modB ver v).length))→Calls Tryz.prog 86 #[.pointer (some ⟨X,0,none⟩),.pointer (some ⟨p,0,none⟩)] W fun e w'=>e=.returned (.tuple #[])∧PoW lo X (b'++cb) ver hs M' W w'):
  Calls Tryz.prog 57 #[.pointer (some ⟨X,0,none⟩),x,.pointer (some ⟨p,0,none⟩)] w fun e w'=>e=.returned (.tuple #[])∧PoW lo X (b++([1]++(nm++(modB ver v++cb)))) ver hs M w w':=by
 have CV:=ym p v m k w hT
 have HX:Hid ((vx v).toArray.size=35∧(vx v).toArray.all (·.oneCell')=true∧(vx v).toArray[0]?=some (.int .i64 v.kind)):=⟨by simp [je],xC v,aY v⟩
 rw [hk] at HX
 have HH:=hid (⟨hS,hk,hl,hxM⟩:_∧_∧_∧_)
 have HM:Hid (∀ (b':List Nat) (M':Nat→Prop) (W:World),Ws lo X b' ver hs0 M' W→b'.length+16≤16777216→Calls Tryz.prog 85 #[.pointer (some ⟨X,0,none⟩),.agg (vx v).toArray] W fun e w'=>e=.returned (.tuple #[])∧PoW lo X (b'++modB ver v) ver hs0 M' W w'):=fun b' M' W h1 h2=>dm v hmd h1 h2
 have HK:=hid CC
 generalize modB ver v=mb at *
 generalize (vx v).toArray=XV at *
 clear hT hk hS hxM hl hmd CC
 go_enter Tryz.func57,Tryz.ntmps57
 go_upto_region 1 with (first
  | (go_at_call 19;refine CV.mono ?_;rintro e w2 ⟨rfl,hg2⟩;have HG2:=hid hg2;clear hg2 CV;obtain ⟨B5,hB5⟩:∃ B5,w2.heap.size=B5:=⟨_,rfl⟩)
  | ((with_reducible refine jF (.pointer (some ⟨B5,0,none⟩)) (w2.alloc (.cells z24 24)) ?_ ?_);exact jG 24 z24 rfl dv _ _ hB5)
  | ((with_reducible refine jC ((w2.alloc (.cells z24 24)).setRow B5 XV) ?_ ?_);exact jL 24 _ _ rfl B5 XV z24 rfl rfl _ (by rw [← hB5];exact World.alloc_heap_new w2 _) (by rw [il,HX.o.1]) (by rw [zr,HX.o.1]) HX.o.2.1))
 try simp only [Act.put,sA,sB,sC]
 have N4:=qX w2 24 z24 XV
 rw [hB5] at N4
 generalize (w2.alloc (.cells z24 24)).setRow B5 XV=w4 at *
 have H4:Hid (G w w4∧w4.heap[B5]?=some (.cells XV 24 (0,0))∧w.heap.size≤B5∧¬ M B5):=by
  have hz:=HG2.o.size
  refine ⟨HG2.o.trans N4.1,N4.2.1,by omega,fun h=>?_⟩
  obtain ⟨u,vh,hW,hM⟩:=HH.o.1
  rw [hM] at h
  have:=(hW.lt.2 B5 h).2
  omega
 clear N4 HG2 hB5
 have q0:=jB (jD H4.o.2.1) 0 _ HX.o.2.2
 obtain ⟨B6,hB6⟩:∃ B6,w4.heap.size=B6:=⟨_,rfl⟩
 go_upto_region 2 with (go_at_call 55;refine (qk (t:=[1]) ((HH.o.1.keep H4.o.1).keep (G.alloc w4 (.cells #[Su.vb 1] 5))) (by have:=(zq w4 1).has;rw [hB6] at this;exact this) (by have:=HH.o.2.2.1;simp only [lC,lN];omega)).mono ?_;rintro e w5 ⟨rfl,h5⟩;have H5:=hid h5;clear h5)
 try simp only [Act.put,sA,sB,sC]
 obtain ⟨M5,s5,m5,f5⟩:=H5.o
 have l5:B5<w4.heap.size:=(gS H4.o.2.1)
 have F5:Fr M w w5:=(Fr.of_G (H4.o.1.trans (G.alloc _ _))).trans (fun c h=>.inl h) f5
 have n5:¬ M5 B5:=fun h=>(m5 B5 h).elim H4.o.2.2.2 fun h=>by rw [World.size_alloc] at h;omega
 have h5B:w5.heap[B5]?=some (.cells XV 24 (0,0)):=(f5.same B5 (by rw [World.size_alloc];omega) H4.o.2.2.2).trans (((G.alloc w4 _).block B5 l5).trans H4.o.2.1)
 have x5:=HH.o.2.2.2 w5 F5
 have M5w:∀ c,M5 c→M c∨w.heap.size≤c:=fun c h=>(m5 c h).imp id fun h=>by have:=H4.o.1.size;rw [World.size_alloc] at h;omega
 have H6:=hid (⟨s5,x5,n5,h5B,F5,M5w⟩:_∧_∧_∧_∧_∧_)
 clear s5 m5 f5 F5 n5 h5B x5 l5 q0 H5 M5w
 go_upto_region 3 with (go_at_call 55;refine (qk H6.o.1 H6.o.2.1 (by have:=HH.o.2.2.1;simp only [lA,lC,lN];omega)).mono ?_;rintro e w6 ⟨rfl,h6⟩;have H7:=hid h6;clear h6)
 try simp only [Act.put,sA,sB,sC]
 obtain ⟨M6,s6,m6,f6⟩:=H7.o
 have l6:B5<w5.heap.size:=(gS H6.o.2.2.2.1)
 have h6B:w6.heap[B5]?=some (.cells XV 24 (0,0)):=(f6.same B5 l6 H6.o.2.2.1).trans H6.o.2.2.2.1
 have q6:=jB (jD h6B) 0 _ HX.o.2.2
 have H8:=hid (⟨s6,m6,f6,h6B⟩:_∧_∧_∧_)
 clear s6 m6 f6 h6B l6 H7
 obtain ⟨_,m6,f6,_⟩:=H8.o
 obtain ⟨_,_,n5,_,F5,M5w⟩:=H6.o
 have M6w:∀ c,M6 c→M c∨w.heap.size≤c:=fun c h=>(m6 c h).elim (M5w c) fun h=>.inr (Nat.le_trans F5.size h)
 have F6:Fr M w w6:=F5.trans M5w f6
 have l5:B5<w5.heap.size:=(gS H6.o.2.2.2.1)
 have n6:¬ M6 B5:=fun h=>(m6 B5 h).elim n5 fun h=>by omega
 have H8':=hid (⟨M6w,F6,n6⟩:_∧_∧_)
 clear m6 f6 n5 F5 M5w M6w F6 n6 l5
 go_wp2_with (first
  | ((with_reducible refine jA (.agg XV) ?_ ?_);exact jJ _ rfl B5 0 rfl XV HX.o.1 (jD H8.o.2.2.2))
  | (go_at_call 85;refine (HM.o _ _ w6 H8.o.1 (by have:=HH.o.2.2.1;simp only [lA,lC,lN];omega)).mono ?_;rintro e w8 ⟨rfl,M8,s8,m8,f8⟩;have H11:=hid (⟨s8,(fun c h=>(m8 c h).elim (H8'.o.1 c) fun h=>.inr (Nat.le_trans H8'.o.2.1.size h):∀ c,M8 c→M c∨w.heap.size≤c),H8'.o.2.1.trans H8'.o.1 f8⟩:_∧_∧_);clear s8 m8 f8)
  | (go_at_call 86;refine (HK.o _ _ w8 H11.o.2.2 H11.o.1 (by simp only [lA,lC,lN];omega)).mono ?_;rintro e w9 ⟨rfl,h9⟩;have H12:=hid h9;clear h9))
 go_end0
 refine ⟨rfl,?_⟩
 obtain ⟨M9,s9,m9,f9⟩:=H12.o
 obtain ⟨_,M8w,F8⟩:=H11.o
 exact ⟨M9,by simpa using s9,fun c h=>(m9 c h).elim (M8w c) fun h=>.inr (Nat.le_trans F8.size h),F8.trans M8w f9⟩
end Go.Proofs.YtjikkhbcbfpocaaGreatDoor
namespace Go.Proofs.YtjikkhbcbfpocaaGreatDoor
open Go.RowKit Go.Shelf
def cOk (v:Vd) (m:Md):Prop:=(v.kind=1∨v.kind=2∨v.kind=3)∧vOk v∧(0≤v.mode∧v.mode<256)∧mOk m
def gOk:F→Prop
 | .nil=>True
 | .cons nm v m ks r=>nm.size≤100000∧cOk v m∧gOk ks∧gOk r
theorem gOk.fOk:∀ {f:F},gOk f→fOk f
 | .nil,_=>trivial
 | .cons _ _ _ _ _,h=>⟨h.1,h.2.1.2.1,gOk.fOk h.2.2.1,gOk.fOk h.2.2.2⟩
theorem gOk.items:∀ {l:List Kid},gOk (kU l)→∀ x∈l,x.nm.size≤100000∧cOk x.v x.m∧gOk x.k.flat
 | [],_,_,h=>by cases h
 | y::l,h,x,hx=>by
  rcases List.mem_cons.1 hx with rfl | hx
  ·exact ⟨h.1,h.2.1,h.2.2.1⟩
  ·exact gOk.items h.2.2.2 x hx
theorem nJ {lo X:Nat} {ver:Int} (w0:World) (hlo:w0.heap.size≤lo):∀ (n:Nat) (k:K),k.flat.size<n→k.flat.size≤100000→∀ (p:Nat) (v:Vd) (m:Md),AtT w0 p v m k→cOk v m→gOk k.flat→∀ (b nm:List Nat) (hs:List (List Nat)) (M:Nat→Prop) (w:World) (x:Value),G w0 w→Ws lo X b ver (dirT v k.flat++hs) M w→(∀ W,Fr M w W→Su.Has W x nm)→b.length+(encT ver nm v m k.flat).length+200≤16777216→
  Calls Tryz.prog 57 #[.pointer (some ⟨X,0,none⟩),x,.pointer (some ⟨p,0,none⟩)] w fun e w'=>e=.returned (.tuple #[])∧PoW lo X (b++encT ver nm v m k.flat) ver hs M w w':=by
 intro n
 induction n with
 | zero=>intro k h;omega
 | succ n ih=>
  intro k hk hsz p v m hT hc hg b nm hs M w x hG hS hx hl
  have hG2:∀ W,Fr M w W→G w0 W:=fun W hF=>by
   obtain ⟨u,vh,hW,hM⟩:=hS
   exact Below.trans (B:=w0.heap.size) hG (hF.below (fun c hc=>Nat.le_trans hlo (by rw [hM] at hc;exact (hW.lt.2 c hc).1)) hG.size)
  obtain ⟨hkind,hv,hmd,hm⟩:=hc
  rcases hkind with h1 | h1 | h1
  ·have e:encT ver nm v m k.flat=[1]++(nm++(modB ver v++(encN k.flat.len++((jt v k.flat).1++encF ver k.flat)))):=by unfold encT oneB;rw [if_pos h1]
   have hh:(jt v k.flat).1.length=32:=yN v k.flat
   rw [mD h1,List.append_assoc] at hS
   have el:(encT ver nm v m k.flat).length=1+(nm.length+((modB ver v).length+((encN k.flat.len).length+(32+(encF ver k.flat).length)))):=by rw [e];simp only [lA,lC,lN,hh]
   rw [e]
   refine nI p v m k (hT.grow hG) h1 hS hx hmd (by omega) ?_
   intro b' M' W hF hS2 hb
   refine cG w0 p v m k hT (hG2 W hF) hlo hS2 hh hsz (by omega) ?_ ?_
   ·intro y hy b2 hs2 M2 W2 nv g2 s2 n2 l2
    have hi:=gOk.items (by rw [qC];exact hg) y hy
    have hs':=yE y hy
    exact ih y.k (by omega) (by omega) y.p y.v y.m (mP hT y hy) hi.2.1 hi.2.2 b2 _ hs2 M2 W2 nv g2 s2 n2 l2
   ·exact fun y hy=>(gOk.items (by rw [qC];exact hg) y hy).1
  ·have e:encT ver nm v m k.flat=[2]++(nm++(conB v++(modB ver v++marB ver m))):=by unfold encT oneB;rw [if_neg (by omega),if_pos h1]
   rw [xw (by omega) _ (.inl h1),List.nil_append] at hS
   have hL:nm.length≤(encT ver nm v m k.flat).length:=by rw [e];simp only [lA];omega
   rw [e]
   exact ie p v m k (hT.grow hG) h1 hv hS hx (fun W hF=>hT.grow (hG2 W hF)) hmd hm (by omega)
  ·have e:encT ver nm v m k.flat=[3]++(nm++conB v):=by unfold encT oneB;rw [if_neg (by omega),if_neg (by omega)]
   rw [xw (by omega) _ (.inr h1),List.nil_append] at hS
   have hL:nm.length≤(encT ver nm v m k.flat).length:=by rw [e];simp only [lA];omega
   rw [e]
   exact ic p v m k (hT.grow hG) h1 hv hS hx (by omega)
attribute [local go_sem] Oper.semAt_some
def arcB (ver:Nat) (v:Vd) (m:Md) (ks:F):List Nat:=[116,119,110,101]++(encN ver++(encN (1+ks.size)++encT ver [] v m ks))
def arcW (ver:Nat) (v:Vd) (m:Md) (ks:F):List Nat:=arcB ver v m ks++le4 (Su.Crc.crc (arcB ver v m ks))
theorem vT {w:World} {lo e n:Nat} {u:Value} {c:List Value} {ty:TypeId} (h:w.ownsRow lo ty e u n c):∃ a l k,u=.slice a l k:=by
 obtain ⟨_,⟨rfl,_⟩ | ⟨g,cap,cur,rv,_⟩⟩:=h
 ·exact ⟨_,_,_,rfl⟩
 ·exact ⟨_,_,_,rv⟩
theorem a09 {w w2:World} {u:Value} {hs:List (List Nat)} (ver:Int) (ho:w2.ownsRow w.heap.size 22 32 u hs.length (hrow hs)) (hg:G w w2):∃ M,Ws w.heap.size w2.heap.size [] ver hs M (w2.alloc (.cells #[.slice none 0 0,.int .i64 ver,u] 112))∧∀ c,M c→w.heap.size≤c:=by
 have ho':=ho
 obtain ⟨h1,h2⟩:=ho
 have hW:Wr w.heap.size w2.heap.size [] ver hs (.slice none 0 0) u (w2.alloc (.cells #[.slice none 0 0,.int .i64 ver,u] 112)):=by
  refine ⟨World.alloc_heap_new w2 _,⟨rfl,.inl ⟨rfl,rfl⟩⟩,?_,hg.size⟩
  rcases h2 with ⟨rfl,e⟩ | ⟨g,cap,cur,rv,rg,rh,rn,rm,rs,rt⟩
  ·exact .inl ⟨0,0,rfl,List.length_eq_zero_iff.1 e⟩
  ·refine .inr ⟨g,0,hs.length,cap,by rw [rv],rg,rfl,rn,cur,((G.alloc w2 _).block g (gS rh)).trans rh,by simpa using rt,?_⟩
   have:=Nat.mul_le_mul_right 32 rn
   omega
 exact ⟨_,⟨_,_,hW,rfl⟩,fun c hc=>(hW.lt.2 c hc).1⟩
theorem PoW.call55 {lo X:Nat} {b t:List Nat} {ver:Int} {hs:List (List Nat)} {M:Nat→Prop} {W0 W:World} {x:Value} (h:PoW lo X b ver hs M W0 W) (hx:Su.Has W x t) (hl:b.length+t.length≤16777216):Calls Tryz.prog 55 #[.pointer (some ⟨X,0,none⟩),x] W fun e w'=>e=.returned (.tuple #[])∧PoW lo X (b++t) ver hs M W0 w':=by
 obtain ⟨M',s',m',f'⟩:=h
 exact (qk s' hx hl).mono fun e w' h=>⟨h.1,PoW.comp m' f' h.2⟩
theorem PoW.call56 {lo X:Nat} {b:List Nat} {ver:Int} {hs:List (List Nat)} {M:Nat→Prop} {W0 W:World} (h:PoW lo X b ver hs M W0 W) (n:Nat) (hn:n<9223372036854775808) (hl:b.length+16≤16777216):Calls Tryz.prog 56 #[.pointer (some ⟨X,0,none⟩),.int .i64 (n:Int)] W fun e w'=>e=.returned (.tuple #[])∧PoW lo X (b++encN n) ver hs M W0 w':=by
 obtain ⟨M',s',m',f'⟩:=h
 exact (kq n hn s' hl).mono fun e w' h=>⟨h.1,PoW.comp m' f' h.2⟩
theorem PoW.bytes {lo X:Nat} {b:List Nat} {ver:Int} {hs:List (List Nat)} {M:Nat→Prop} {W0 W:World} (h:PoW lo X b ver hs M W0 W):∃ po cap,W.cell? ⟨X,0,none⟩=some (.slice po b.length cap)∧Su.Owns W lo (.slice po b.length cap) b:=by
 obtain ⟨M',⟨u,vh,hW,_⟩,_,_⟩:=h
 obtain ⟨po,cap,e⟩:∃ po cap,u=.slice po b.length cap:=by
  obtain ⟨_,⟨rfl,h3⟩ | ⟨g,cap,_,rv,_⟩⟩:=hW.ow
  ·exact ⟨none,0,by rw [h3]⟩
  ·exact ⟨_,cap,rv⟩
 subst e
 exact ⟨po,cap,jB (jD hW.at_) 0 _ rfl,hW.ow⟩
theorem PoW.low {lo X:Nat} {b:List Nat} {ver:Int} {hs:List (List Nat)} {M:Nat→Prop} {w W0 W:World} (h:PoW lo X b ver hs M W0 W) (hg:G w W0) (hM:∀ c,M c→w.heap.size≤c):G w W:=by
 obtain ⟨_,_,_,hF⟩:=h
 exact Below.trans (B:=w.heap.size) hg (hF.below hM hg.size)
theorem iZ (p:Nat) (v:Vd) (m:Md) (k:K) (w:World) (ver:Nat) (hver:ver<9223372036854775808) (hT:AtT w p v m k) (hk:v.kind=1) (hc:cOk v m) (hg:gOk k.flat) (hsz:k.flat.size≤100000) (hTb:Su.Tabs w) (hTh:Su.Half w) (hl:(encT ver [] v m k.flat).length+300≤16777216) (hB:Su.Bytes (arcB ver v m k.flat)):
  Calls Tryz.prog 33 #[.pointer (some ⟨p,0,none⟩),.int .i64 (ver:Int)] w fun e w'=>∃ u,e=.returned u∧Su.Owns w' w.heap.size u (arcW ver v m k.flat)∧G w w':=by
 unfold arcW
 obtain ⟨E,hE0⟩:∃ E,arcB ver v m k.flat=E:=⟨_,rfl⟩
 rw [hE0] at hB ⊢
 have CH:=aw p v m k w hT hc.2.1 hg.fOk hsz hTb
 have CO:=cD p v m k
 have HH:=hid (⟨hT,hk,hc,hg,hsz,hTh,hl,hB⟩:_∧_∧_∧_∧_∧_∧_∧_)
 obtain ⟨hs,hhs⟩:∃ hs,dirs (jt v k.flat).2=hs:=⟨_,rfl⟩
 rw [hhs] at CH
 obtain ⟨cn,hcn⟩:∃ cn,1+k.flat.size=cn:=⟨_,rfl⟩
 rw [hcn] at CO
 have HCN:=hid (⟨hcn,(by omega:cn<9223372036854775808)⟩:_∧_)
 have HCO:=hid CO
 clear hcn
 clear hT hk hc hg hsz hTb hTh hl hB CO
 go_enter Tryz.func33,Tryz.ntmps33
 go_upto_region 2 with (go_at_call 54;refine CH.mono ?_;rintro e w2 ⟨u,rfl,ho,hg2⟩;have HO:=hid (⟨ho,hg2⟩:_∧_);obtain ⟨ua,un,uc,hu⟩:=vT ho;subst hu;clear ho hg2 CH;obtain ⟨X,hX⟩:∃ X,w2.heap.size=X:=⟨_,rfl⟩)
 obtain ⟨M3,s3,l3⟩:=a09 (ver:Int) HO.o.1 HO.o.2
 rw [hX] at s3
 have H3:Hid (PoW w.heap.size X [] (ver:Int) hs M3 (w2.alloc (.cells #[.slice none 0 0,.int .i64 (ver:Int),.slice ua un uc] 112)) (w2.alloc (.cells #[.slice none 0 0,.int .i64 (ver:Int),.slice ua un uc] 112))∧(∀ c,M3 c→w.heap.size≤c)∧G w (w2.alloc (.cells #[.slice none 0 0,.int .i64 (ver:Int),.slice ua un uc] 112))):=⟨⟨M3,s3,fun _ h=>.inl h,Fr.of_G (G.refl _)⟩,l3,HO.o.2.trans (G.alloc _ _)⟩
 clear s3 l3
 generalize w2.alloc (.cells #[.slice none 0 0,.int .i64 (ver:Int),.slice ua un uc] 112)=w3 at *
 clear HO hX
 obtain ⟨B3,hB3⟩:∃ B3,w3.heap.size=B3:=⟨_,rfl⟩
 have kc:=Lib.run_convert_bytes_const (P:=Tryz.prog) w3 35 5 #[.int .u8 116,.int .u8 119,.int .u8 110,.int .u8 101] 4 4 Tryz.underlying35 Tryz.underlying5
 rw [hB3] at kc
 have HMk:Hid (Su.Has (w3.alloc (.cells #[.int .u8 116,.int .u8 119,.int .u8 110,.int .u8 101] 5 (4,5))) (.slice (some ⟨B3,0,none⟩) 4 4) [116,119,110,101]):=by
  refine .inr ⟨⟨B3,0,none⟩,4,rfl,Nat.le_refl _,fun i hi=>?_⟩
  rw [Su.kj,Nat.zero_add,← hB3,World.cell?_alloc_mark]
  have h4:i=0∨i=1∨i=2∨i=3:=by simp at hi;omega
  rcases h4 with rfl | rfl | rfl | rfl<;>rfl
 have H4:=hid (H3.o.1.grow (G.alloc w3 (.cells #[.int .u8 116,.int .u8 119,.int .u8 110,.int .u8 101] 5 (4,5))))
 go_upto_region 3 with (go_at_call 55;refine (H4.o.call55 HMk.o (by simp)).mono ?_;rintro e w5 ⟨rfl,h5⟩;have H5:=hid h5;clear h5)
 go_upto_region 4 with (go_at_call 56;refine (H5.o.call56 ver hver (by simp)).mono ?_;rintro e w6 ⟨rfl,h6⟩;have H6:=hid h6;clear h6)
 have H6G:=hid (H6.o.low H3.o.2.2 H3.o.2.1)
 have C56:=H6.o.call56 cn HCN.o.2 (by have:=jT (n:=ver) (by omega);simp only [lA,lC,lN];omega)
 go_upto_region 5 with (first
  | (go_at_call 18;refine (HCO.o w6 (HH.o.1.grow H6G.o) (by have:=HH.o.2.2.2.2.1;omega)).mono ?_;rintro e w7 ⟨rfl,hw7⟩;subst hw7)
  | (go_at_call 56;refine C56.mono ?_;rintro e w8 ⟨rfl,h8⟩;have H8:=hid h8;clear h8 C56))
 have H8G:=hid (H8.o.low H3.o.2.2 H3.o.2.1)
 have hlen:([]++[116,119,110,101]++encN ver++encN cn).length≤24:=by
  have h1:=jT (n:=ver) (by omega)
  have h2:=jT (n:=cn) (by have:=HCN.o.2;omega)
  simp only [lA,lC,lN]
  omega
 obtain ⟨M8,s8,m8,f8⟩:=H8.o
 have CN:=nJ (lo:=w.heap.size) (X:=X) (ver:=(ver:Int)) w (Nat.le_refl _) (k.flat.size+1) k (Nat.lt_succ_self _) HH.o.2.2.2.2.1 p v m HH.o.1 HH.o.2.2.1 HH.o.2.2.2.1 _ [] [] M8 w8 (.slice none 0 0) H8G.o (by rw [List.append_nil];unfold dirT;rw [hhs];exact s8) (fun _ _=>.inl ⟨rfl,rfl⟩) (by have:=HH.o.2.2.2.2.2.2.1;omega)
 have H9':=hid (⟨m8,f8⟩:_∧_)
 clear m8 f8 s8 hlen kc
 go_upto_region 6 with (go_at_call 57;refine CN.mono ?_;rintro e w9 ⟨rfl,h9⟩;have H9:=hid (PoW.comp H9'.o.1 H9'.o.2 h9);clear h9)
 clear CN H9'
 have hE:[]++[116,119,110,101]++encN ver++encN cn++encT (ver:Int) [] v m k.flat=E:=by rw [← hE0];unfold arcB;rw [HCN.o.1];simp
 rw [hE] at H9
 have hEl:E.length+100≤16777216:=by
  have h0:=HH.o.2.2.2.2.2.2.1
  have h1:=jT (n:=ver) (by omega)
  have h2:=jT (n:=cn) (by have:=HCN.o.2;omega)
  rw [← hE]
  simp only [lA,lC,lN]
  omega
 have HE:=hid (⟨HH.o.2.2.2.2.2.2.2,hEl⟩:_∧_)
 clear hE hEl hE0
 have H9G:=hid (H9.o.low H3.o.2.2 H3.o.2.1)
 obtain ⟨po,cap,q0,ow⟩:=H9.o.bytes
 have CS:=gH _ E w9 ow.has HE.o.1 (HH.o.2.2.2.2.2.1.below H9G.o HH.o.2.2.2.2.2.1.size) (by have:=HE.o.2;omega)
 clear ow
 go_upto_region 7 with (first
  | (go_at_call 58;refine CS.mono ?_;rintro e w10 ⟨vs,rfl,hos,hg10⟩;have C55:=(H9.o.grow hg10).call55 hos.has (by have:=HE.o.2;have:(le4 (Su.Crc.crc E)).length=4:=rfl;omega);clear CS hos hg10)
  | (go_at_call 55;refine C55.mono ?_;rintro e w11 ⟨rfl,h11⟩;obtain ⟨po2,cap2,r0,ow2⟩:=h11.bytes;have H11:=hid (⟨ow2,h11.low H3.o.2.2 H3.o.2.1⟩:_∧_);clear h11 ow2 C55 q0))
 go_wp2
 refine bodyPost_ret (results_tmp rfl _ _ _) rfl ⟨_,rfl,?_,H11.o.2⟩
 have:=H11.o.1
 rw [lA] at this
 exact this
theorem kA:Su.Bytes []:=fun _ h=>by cases h
theorem cH (v:Vd) (ks:F):Su.Bytes (jt v ks).1:=by
 unfold jt
 split<;>exact aE _
theorem di (ver:Int) {v:Vd} (h:0≤v.mode∧v.mode<256):Su.Bytes (modB ver v):=by
 unfold modB
 split
 ·exact qJ (by omega) kA
 ·exact kA
theorem gB (m:Md):∀ k,Su.Bytes (mkB m k)
 | 0=>kA
 | k+1=>jR (gB m k) (jR (qI _) (qI _))
theorem nK (ver:Int) (m:Md):Su.Bytes (marB ver m):=by
 unfold marB
 split
 ·exact kA
 ·exact gB m 2
theorem dj (ver:Int) {nm:List Nat} {v:Vd} {m:Md} {c:Nat} {h ks:List Nat} (hn:Su.Bytes nm) (hc:cOk v m) (hh:Su.Bytes h) (hk:Su.Bytes ks):Su.Bytes (oneB ver nm v m c h ks):=by
 unfold oneB
 have hcon:Su.Bytes (conB v):=jR (qI _) hc.2.1.2.2
 split
 ·exact jR (qJ (by decide) kA) (jR hn (jR (di ver hc.2.2.1) (jR (qI _) (jR hh hk))))
 ·split
  ·exact jR (qJ (by decide) kA) (jR hn (jR hcon (jR (di ver hc.2.2.1) (nK ver m))))
  ·exact jR (qJ (by decide) kA) (jR hn hcon)
theorem nL (nm:ByteArray):Su.Bytes (namB nm):=jR (qI _) (dg _)
theorem aW (ver:Int):∀ {f:F},gOk f→Su.Bytes (encF ver f)
 | .nil,_=>kA
 | .cons nm v m ks r,h=>by
  rw [encF]
  exact jR (dj ver (nL nm) h.2.1 (cH v ks) (aW ver h.2.2.1)) (aW ver h.2.2.2)
theorem nM (ver:Int) {nm:List Nat} {v:Vd} {m:Md} {ks:F} (hn:Su.Bytes nm) (hc:cOk v m) (hk:gOk ks):Su.Bytes (encT ver nm v m ks):=dj ver hn hc (cH v ks) (aW ver hk)
theorem dl (ver:Nat) {v:Vd} {m:Md} {ks:F} (hc:cOk v m) (hk:gOk ks):Su.Bytes (arcB ver v m ks):=
 jR (qJ (by decide) (qJ (by decide) (qJ (by decide) (qJ (by decide) kA)))) (jR (qI _) (jR (qI _) (nM ver kA hc hk)))
theorem lz (ver:Int) {nm:List Nat} {v:Vd} {m:Md} {c:Nat} {h ks:List Nat} (hc:cOk v m) (hn:c<9223372036854775808) (hh:h.length=32):(oneB ver nm v m c h ks).length≤nm.length+84+(if v.kind=1 then ks.length else 0):=by
 obtain ⟨_,⟨_,hs,_⟩,_,hm1,hm2,hm3,hm4⟩:=hc
 have e2:=jT (n:=v.size.toNat) (by omega)
 have e3:=jT (n:=c) (by omega)
 have e4:=v.len
 have a1:=jT (n:=m.n0.toNat) (by omega)
 have a2:=jT (n:=m.s0.toNat) (by omega)
 have a3:=jT (n:=m.n1.toNat) (by omega)
 have a4:=jT (n:=m.s1.toNat) (by omega)
 have h1:(modB ver v).length≤1:=by unfold modB;split<;>simp
 have h2:(marB ver m).length≤40:=by
  unfold marB
  split
  ·simp
  ·simp only [mkB,mN,mS,lA,lN,if_true,Nat.succ_ne_zero,if_false]
   omega
 have h3:(conB v).length≤42:=by simp only [conB,lA];omega
 unfold oneB
 split
 ·simp only [lA,lC,lN];omega
 ·split<;>simp only [lA,lC,lN]<;>omega
def nOk:F→Prop
 | .nil=>True
 | .cons nm _ _ ks r=>nm.size≤255∧nOk ks∧nOk r
theorem tG {nm:ByteArray} (h:nm.size≤255):(namB nm).length≤265:=by
 have:=jT (n:=nm.size) (by omega)
 have e:(strN nm).length=nm.size:=by simp [strN]
 simp only [namB,lA,e]
 omega
theorem ea (ver:Int):∀ {f:F},gOk f→nOk f→f.size<9223372036854775808→(encF ver f).length≤350*f.size
 | .nil,_,_,_=>by simp [encF,F.size]
 | .cons nm v m ks r,h,hn,hs=>by
  have hs':ks.size<9223372036854775808∧r.size<9223372036854775808:=by simp only [F.size] at hs;omega
  have h1:=ea ver h.2.2.1 hn.2.1 hs'.1
  have h2:=ea ver h.2.2.2 hn.2.2 hs'.2
  have hl:=ks.len_le_size
  have h3:=lz ver (nm:=namB nm) (c:=ks.len) (h:=(jt v ks).1) (ks:=encF ver ks) h.2.1 (by omega) (yN v ks)
  have h4:=tG hn.1
  have h5:(if v.kind=1 then (encF ver ks).length else 0)≤(encF ver ks).length:=by split<;>omega
  rw [encF,lA]
  simp only [F.size]
  omega
theorem mB (ver:Nat) (hv:ver<9223372036854775808) {v:Vd} {m:Md} {ks:F} (hc:cOk v m) (hk:gOk ks) (hn:nOk ks) (hs:ks.size<1000000000):(arcW ver v m ks).length≤350*(1+ks.size)∧(encT ver [] v m ks).length+250≤350*(1+ks.size):=by
 have hl:=ks.len_le_size
 have h3:=lz ver (nm:=[]) (c:=ks.len) (h:=(jt v ks).1) (ks:=encF ver ks) hc (by omega) (yN v ks)
 have h5:(if v.kind=1 then (encF ver ks).length else 0)≤(encF ver ks).length:=by split<;>omega
 have h6:=ea ver hk hn (by omega)
 have h7:=jT (n:=ver) (by omega)
 have h8:=jT (n:=1+ks.size) (by omega)
 have h9:(le4 (Su.Crc.crc (arcB ver v m ks))).length=4:=rfl
 have e:(arcB ver v m ks).length=4+((encN ver).length+((encN (1+ks.size)).length+(encT ver [] v m ks).length)):=by simp only [arcB,lA,lC,lN]
 have e2:(encT ver [] v m ks).length=(oneB ver [] v m ks.len (jt v ks).1 (encF ver ks)).length:=rfl
 simp only [arcW,lA,h9,e]
 simp only [lN] at h3
 omega
theorem xt (most:Int) (w:World):Calls Tryz.prog 32 #[.int .i64 most] w fun e w'=>e=.returned (.int .i64 (min (max most 1) 1048576))∧w'=w:=by
 go_enter Tryz.func32,Tryz.ntmps32
 go_wp2
 exact bodyPost_ret (results_tmp rfl _ _ _) rfl ⟨rfl,rfl⟩
def bnd (most:Int):Nat:=(min (max most 1) 1048576).toNat
theorem uT (most:Int):bnd most≤1048576:=by unfold bnd;omega
theorem iN (most:Int):((bnd most:Nat):Int)=min (max most 1) 1048576:=by unfold bnd;omega
def decL (b:List Nat):List Int:=up (b.take (b.length-4))
def decR (b:List Nat):Rv:=⟨⟨(opU b).2.p,0,0⟩,0,none,[]⟩
def decN (b:List Nat) (most:Int):Nd × Rv:=bd (decL b) (opU b).1 (bnd most) (decR b)
def DFlt (x:Int × Int) (e:Ending) (w':World):Prop:=∃ fb,e=.returned (.tuple #[.pointer none,.int .i64 0,.iface 72 (.pointer (some ⟨fb,0,none⟩))])∧w'.heap[fb]?=some (.cells #[.int .i64 x.1,.string ⟨#[]⟩,.int .i64 x.2] 93 (0,0))
def DHsh (st:List Stp) (e:Ending) (w':World):Prop:=∃ s∈st,∃ fb pt,e=.returned (.tuple #[.pointer none,.int .i64 0,.iface 72 (.pointer (some ⟨fb,0,none⟩))])∧w'.heap[fb]?=some (.cells #[.int .i64 (s.pl:Int),.string pt,.int .i64 65] 93 (0,0))
def DTree (d:Nd) (ver:Int) (e:Ending) (w':World):Prop:=∃ p k,e=.returned (.tuple #[.pointer (some ⟨p,0,none⟩),.int .i64 ver,.nilIface])∧AtT w' p d.v d.m k∧k.flat=d.ks∧k.plain w'∧Tr w' p
def DecP (b:List Nat) (most:Int) (e:Ending) (w':World):Prop:=
 (∃ x,opF b=some x∧DFlt x e w')∨(opF b=none∧((∃ x,(decN b most).2.flt=some x∧DFlt x e w')∨((decN b most).2.flt=none∧
  ((((decN b most).2.st.map (·.hash))≠dirT (decN b most).1.v (decN b most).1.ks∧DHsh (decN b most).2.st e w')∨(((decN b most).2.st.map (·.hash))=dirT (decN b most).1.v (decN b most).1.ks∧DTree (decN b most).1 (opU b).1 e w')))))
structure DecOk (d:Nd) (r:Rv):Prop where
 chk:qL d.v d.m d.ks=0
 wt:d.ks.weight≤100000
 v:vOk d.v
 f:fOk d.ks
 st:r.st.length=(dirT d.v d.ks).length
 stb:r.st.length≤100000000
 sz:d.ks.size≤100000
theorem nE (vb:Value) (b:List Nat) (most:Int) (w:World) (hb:Su.Has w vb b) (hB:Su.Bytes b) (hT:Su.Half w) (hTb:Su.Tabs w) (hE:ErrT w) (h1:1<w.heap.size) (hl:b.length≤16777216)
  (hc:opF b=none→(yX (decL b) (bnd most) (decR b)).left≤100000∨b.length≤100000) (hok:opF b=none→(decN b most).2.flt=none→DecOk (decN b most).1 (decN b most).2):
  Calls Tryz.prog 13 #[vb,.int .i64 most] w fun e w'=>G w w'∧DecP b most e w':=by
 have CO:=nD vb b w hb hB hT hl
 have CB:=xt most
 rw [← iN most] at CB
 have hbl:=uT most
 have HH:=hid (⟨hTb,hE,h1,hc,hok⟩:_∧_∧_∧_∧_)
 obtain ⟨ao,n,cap,hv⟩:∃ ao n cap,vb=.slice ao n cap:=by
  rcases hb with ⟨rfl,rfl⟩ | ⟨a,cp,rfl,_⟩
  ·exact ⟨_,_,_,rfl⟩
  ·exact ⟨_,_,_,rfl⟩
 subst hv
 obtain ⟨BM,hBM⟩:∃ BM,bnd most=BM:=⟨_,rfl⟩
 rw [hBM] at CB hbl
 have HBM:=hid hBM
 clear hb hB hT hTb hE hc hok hl hBM
 cases hF:opF b with
 | some x=>
  have CO2:Calls Tryz.prog 35 #[.slice ao n cap] w fun e w'=>∃ fb,e=.returned (.tuple #[.pointer none,.pointer (some ⟨fb,0,none⟩)])∧w'.heap[fb]?=some (.cells #[.int .i64 x.1,.string ⟨#[]⟩,.int .i64 x.2] 93 (0,0))∧G w w':=CO.mono fun e w' ⟨h,g⟩=>by
   rcases h with ⟨x',fb,q1,q2,q3,_⟩ | ⟨c,M,q1,_⟩
   ·rw [hF] at q1
    cases q1
    exact ⟨fb,q2,q3,g⟩
   ·rw [hF] at q1;cases q1
  have HF:=hid hF
  clear CO CB hF
  go_enter Tryz.func13,Tryz.ntmps13
  go_wp2_with (go_at_call 35;refine CO2.mono ?_;rintro e w1 ⟨fb,rfl,q3,q4⟩;have HQ:=hid (⟨q3,q4⟩:_∧_);clear q3 q4 CO2)
  go_ret3
  exact ⟨HQ.o.2,.inl ⟨x,HF.o,fb,rfl,HQ.o.1⟩⟩
 | none=>
  have CO2:Calls Tryz.prog 35 #[.slice ao n cap] w fun e w'=>∃ c M,e=.returned (.tuple #[.pointer (some ⟨c.X,0,none⟩),.pointer none])∧c.lo=w.heap.size∧c.l=decL b∧c.ver=((opU b).1:Int)∧Rs c (decR b) M w'∧G w w':=CO.mono fun e w' ⟨h,g⟩=>by
   rcases h with ⟨x',fb,q1,_⟩ | ⟨c,M,q1,q2,q3,q4,q5,q6⟩
   ·rw [hF] at q1;cases q1
   ·exact ⟨c,M,q2,q3,q4,q5,q6,g⟩
  have hc2:=HH.o.2.2.2.1 hF
  have hok2:=HH.o.2.2.2.2 hF
  rw [HBM.o] at hc2
  have hdN:decN b most=bd (decL b) (opU b).1 BM (decR b):=by unfold decN;rw [HBM.o]
  rw [hdN] at hok2
  have HF:=hid (⟨hF,hc2,hok2,hdN⟩:_∧_∧_∧_)
  clear CO hF hc2 hok2 hdN
  go_enter Tryz.func13,Tryz.ntmps13
  go_upto_region 4 with (go_at_call 35;refine CO2.mono ?_;rintro e w1 ⟨c,M,rfl,q3,q4,q5,q6,q7⟩;have HQ:=hid (⟨q3,q4,q5,q6,q7⟩:_∧_∧_∧_∧_);clear q3 q4 q5 q6 q7 CO2)
  have hlo1:1<c.lo:=by rw [HQ.o.1];exact h1
  have CN:=iL (c:=c) (r:=decR b) (M:=M) (w:=w1) BM hbl HQ.o.2.2.2.1 (HQ.o.2.2.2.2.cell HH.o.2.1) hlo1 (by
   unfold capR
   rw [HQ.o.2.1]
   have hq:=HF.o.2.1
   have e0:(yX (decL b) BM (decR b)).st.length=0:=by
    unfold yX
    rw [(Sm.must _ _ _).st,(Sm.bound _).st]
    rfl
   have e1:(decL b).length≤b.length:=by unfold decL;rw [kK,List.length_take];omega
   omega)
  rw [HQ.o.2.1,HQ.o.2.2.1] at CN
  generalize bd (decL b) (opU b).1 BM (decR b)=NN at *
  obtain ⟨d,r⟩:=NN
  simp only at CN HF
  clear hlo1
  go_upto_region 5 with (first
   | (go_at_call 32;refine (CB w1).mono ?_;rintro e w2 ⟨rfl,hw2⟩;replace hw2:=hw2.symm;subst hw2)
   | (go_at_call 36;refine CN.mono ?_;rintro e W2 ⟨C,rfl,hN⟩;obtain ⟨D,hD⟩:∃ D,W2.heap.size=D:=⟨_,rfl⟩;have HN:=hid hN;have HZ:Hid (C.size=41∧C.all (·.oneCell')=true):=by { obtain ⟨_,_,_,_,_,⟨kv2,rfl,hk2⟩,_⟩:=hN;obtain ⟨a2,cap2,rfl,_⟩:=hk2;exact ⟨jO ..,qz _ _ _ _ rfl⟩ };have HV:=hid (aR W2 C);rw [hD] at HV;clear CN hN)
   | ((with_reducible refine jF (.pointer (some ⟨D,0,none⟩)) (W2.alloc (.cells z30 30)) ?_ ?_);exact jG 30 z30 rfl xZ _ _ hD)
   | ((with_reducible refine jC ((W2.alloc (.cells z30 30)).setRow D C) ?_ ?_);exact jU _ _ rfl D C z30 rfl rfl _ (by rw [← hD];exact Var.new W2 z30) HZ.o.1 jN HZ.o.2))
  obtain ⟨M2,T2,n1,n2,n3,n4,n5⟩:=HN.o
  have hG2:G w W2:=Below.trans (B:=w.heap.size) HQ.o.2.2.2.2 (n3.fr.below (fun x hx=>by have:=(HQ.o.2.2.2.1.bnd x hx).1;rw [HQ.o.1] at this;exact this) HQ.o.2.2.2.2.size)
  have n1:=n1.grow HV.o.1
  have hN3:HasN ((W2.alloc (.cells z30 30)).setRow D C) C d.nm d.v d.m d.ks:=n4.has.below HV.o.1
  have HK:=hid (⟨n1,hN3,G.trans hG2 HV.o.1,HV.o.2.1⟩:_∧_∧_∧_)
  clear n1 n2 n3 n4 n5 hN3 hG2 HN HV hD CB
  generalize (W2.alloc (.cells z30 30)).setRow D C=w3 at *
  obtain ⟨fp,q3,hq⟩:=HK.o.1.q3
  rcases hq with ⟨hf,rfl⟩ | ⟨hf,bq,rfl⟩
  ·have hD:=HF.o.2.2.1 hf
   have CF:=cY C d.nm d.v d.m d.ks w3 HK.o.2.1 hD.wt
   rw [hD.chk] at CF
   have CF2:Calls Tryz.prog 29 #[.agg C] w3 fun e w'=>∃ p k,e=.returned (.tuple #[.pointer (some ⟨p,0,none⟩),.int .i64 0])∧G w3 w'∧AtT w' p d.v d.m k∧k.flat=d.ks∧k.plain w'∧Tr w' p:=CF.mono fun e w' ⟨u,e1,e2,e3⟩=>by
    rcases e3 with ⟨e3,_⟩ | ⟨_,p,k,e4,e5⟩
    ·exact absurd rfl e3
    ·subst e4
     exact ⟨p,k,e1,e2,e5⟩
   have HD:=hid (⟨hD,hf⟩:_∧_)
   clear CF hD hf
   go_upto_region 8 with (first
    | ((with_reducible refine jA (.agg C) ?_ ?_);exact jK _ rfl D 0 rfl _ HZ.o.1 HK.o.2.2.2.lies)
    | (go_at_call 29;refine CF2.mono ?_;rintro e w4 ⟨p,k,rfl,g4,a1,a2,a3,a4⟩;have HT:=hid (⟨g4,a1,a2,a3,a4⟩:_∧_∧_∧_∧_);clear g4 a1 a2 a3 a4 CF2))
   have hR4:=HK.o.1.grow HT.o.1
   have hG4:=G.trans HK.o.2.2.1 HT.o.1
   have CW:=eN hR4 p d.v d.m k HT.o.2.1 HD.o.1.v (by rw [HT.o.2.2.1];exact HD.o.1.f) (by rw [HT.o.2.2.1];exact HD.o.1.sz) (HH.o.1.up hG4) (by rw [HT.o.2.2.1];exact HD.o.1.st) HD.o.1.stb
   rw [HT.o.2.2.1] at CW
   have HG4:=hid hG4
   clear hR4 hG4
   by_cases heq:r.st.map (·.hash)=dirT d.v d.ks
   ·have CW2:Calls Tryz.prog 37 #[.pointer (some ⟨c.X,0,none⟩),.pointer (some ⟨p,0,none⟩)] w4 fun e w'=>e=.returned (.pointer none)∧G w4 w':=CW.mono fun e w' ⟨g,h⟩=>by
     rcases h with ⟨_,h⟩ | ⟨h,_⟩
     ·exact ⟨h,g⟩
     ·exact absurd heq h
    have HE:=hid heq
    clear CW heq
    go_upto_region 11 with (go_at_call 37;refine CW2.mono ?_;rintro e w5 ⟨rfl,g5⟩;have HG5:=hid g5;clear g5 CW2)
    have q1:=(G.trans HT.o.1 HG5.o).cell HK.o.1.q1
    refine qO ?_
    have q1d:=(G.drew w5).cell q1
    have HG6:Hid (G w4 w5.drew):=G.trans HG5.o (G.drew w5)
    generalize w5.drew=w6 at *
    have HQ1:=hid q1d
    clear q1 q1d
    refine fG 0 48 (.pointer (some ⟨p,0,none⟩)) ?_
    refine fG 1 49 (.pointer (some ⟨c.X,0,none⟩)) ?_
    refine gG 2 50 (.pointer (some ⟨c.X,0,none⟩)) ?_
    refine gG 3 51 (.pointer (some ⟨c.X,1,none⟩)) ?_
    refine qx 4 52 (.int .i64 c.ver) (fun wz hz=>?_) ?_
    ·have y:=hz.cell HQ1.o;go_simp
    refine gG 5 4 (.pointer (some ⟨p,0,none⟩)) ?_
    refine gG 6 5 (.int .i64 c.ver) ?_
    refine gG 7 6 (.nilIface) ?_
    refine bL (by kernel_rfl) (fun w9 hg9=>?_)
    have HG9:=hid (G.trans HG6.o hg9)
    clear hg9
    go_wp2
    go_ret3
    refine ⟨G.trans HG4.o HG9.o,.inr ⟨HF.o.1,.inr ?_⟩⟩
    rw [HF.o.2.2.2]
    refine ⟨HD.o.2,.inr ⟨HE.o,p,k,?_,HT.o.2.1.grow HG9.o,HT.o.2.2.1,K.plain_grow HG9.o HT.o.2.2.2.1,HT.o.2.2.2.2.grow HG9.o⟩⟩
    rw [HQ.o.2.2.1]
    rfl
   ·have CW2:Calls Tryz.prog 37 #[.pointer (some ⟨c.X,0,none⟩),.pointer (some ⟨p,0,none⟩)] w4 fun e w'=>∃ s fb pt,e=.returned (.pointer (some ⟨fb,0,none⟩))∧s∈r.st∧w'.heap[fb]?=some (.cells #[.int .i64 (s.pl:Int),.string pt,.int .i64 65] 93 (0,0))∧G w4 w':=CW.mono fun e w' ⟨g,h⟩=>by
     rcases h with ⟨h,_⟩ | ⟨_,s,hs,fb,pt,h1,h2⟩
     ·exact absurd h heq
     ·exact ⟨s,fb,pt,h1,hs,h2,g⟩
    have HE:=hid heq
    clear CW heq
    go_wp2_with (go_at_call 37;refine CW2.mono ?_;rintro e w5 ⟨s,fb,pt,rfl,g1,g2,g3⟩;have HG5:=hid (⟨g1,g2,g3⟩:_∧_∧_);clear g1 g2 g3 CW2)
    go_ret3
    refine ⟨G.trans HG4.o HG5.o.2.2,.inr ⟨HF.o.1,.inr ?_⟩⟩
    rw [HF.o.2.2.2]
    exact ⟨HD.o.2,.inl ⟨HE.o,s,HG5.o.1,fb,pt,rfl,HG5.o.2.1⟩⟩
  ·obtain ⟨x,hx⟩:∃ x,r.flt=some x:=Option.isSome_iff_exists.1 hf
   have hfb:w3.heap[bq]?=some (.cells #[.int .i64 x.1,.string ⟨#[]⟩,.int .i64 x.2] 93 (0,0)):=by
    obtain ⟨fp9,sv9,xs9,h9⟩:=id HK.o.1
    have e9:w3.cell? ⟨c.X,3,none⟩=some fp9:=jB h9.lies 3 _ rfl
    rw [q3] at e9
    injection e9 with e9
    have f9:=h9.fl
    rw [hx,← e9] at f9
    obtain ⟨b9,e10,_,e11⟩:=f9
    injection e10 with e10
    injection e10 with e10
    injection e10 with e10
    subst e10
    exact e11
   have HX:=hid (⟨hx,hfb⟩:_∧_)
   clear hx hfb hf
   go_upto_region 6 with fail
   refine qO ?_
   have q3d:=(G.drew w3).cell q3
   have HG6:Hid (G w3 w3.drew):=G.drew w3
   generalize w3.drew=w6 at *
   have HQ3:=hid q3d
   clear q3 q3d
   refine fG 0 31 (.pointer (some ⟨c.X,0,none⟩)) ?_
   refine gG 1 32 (.pointer (some ⟨c.X,0,none⟩)) ?_
   refine gG 2 33 (.pointer (some ⟨c.X,3,none⟩)) ?_
   refine qx 3 34 (.pointer (some ⟨bq,0,none⟩)) (fun wz hz=>?_) ?_
   ·have y:=hz.cell HQ3.o;go_simp
   refine gG 4 35 (.iface 72 (.pointer (some ⟨bq,0,none⟩))) ?_
   refine gG 5 4 (.pointer none) ?_
   refine gG 6 5 (.int .i64 0) ?_
   refine gG 7 6 (.iface 72 (.pointer (some ⟨bq,0,none⟩))) ?_
   refine bL (by kernel_rfl) (fun w9 hg9=>?_)
   have HG9:=hid (G.trans HG6.o hg9)
   clear hg9
   go_wp2
   go_ret3
   refine ⟨G.trans HK.o.2.2.1 HG9.o,.inr ⟨HF.o.1,.inl ⟨x,?_,bq,rfl,(HG9.o.block bq (gS HX.o.2)).trans HX.o.2⟩⟩⟩
   rw [HF.o.2.2.2]
   exact HX.o.1
end Go.Proofs.YtjikkhbcbfpocaaGreatDoor
namespace Go.Proofs.YtjikkhbcbfpocaaGreatDoor
open Go.RowKit Go.Shelf
def nrmV (ver:Int) (v:Vd) (m:Md):Prop:=(ver<2→v.kind≠3→v.mode=8)∧(ver<3→m=Md.zero)
def nrmF (ver:Int):F→Prop
 | .nil=>True
 | .cons _ v m ks r=>nrmV ver v m∧nrmF ver ks∧nrmF ver r
def bytF:F→Prop
 | .nil=>True
 | .cons _ v _ ks r=>Su.Bytes v.sum∧bytF ks∧bytF r
def nbO:Option (List ByteArray)→ByteArray→List Nat
 | none,_=>[]
 | some _,nm=>namB nm
theorem od {here:List ByteArray} {pl:Nat} {h:List Nat} {x:Option F × Rv} {f:F} (e:x.1=some f):kidE here pl h x=(f,{ x.2 with st:=x.2.st++[⟨here,pl,h⟩] }):=by unfold kidE;rw [e]
theorem xK:Su.Bytes jw:=fun x hx=>by
 have:=List.eq_of_mem_replicate hx
 omega
attribute [local go_sem] Oper.semAt_some
def encE (ver kind count most:Int):Int:=if ver<1∨3<ver then 61 else if kind≠1 then 66 else if min (max most 1) 1048576<count then 64 else 0
theorem gC (p:Nat) (ver:Int) (h:2≤ver) (w:World):Calls Tryz.prog 34 #[.pointer (some ⟨p,0,none⟩),.int .i64 ver] w fun e w'=>e=.returned (.pointer (some ⟨p,0,none⟩))∧w'=w:=by
 go_enter Tryz.func34,Tryz.ntmps34
 have h2:decide (ver≥2)=true:=by simpa using h
 go_wp2
 exact bodyPost_ret (results_tmp rfl _ _ _) rfl ⟨rfl,rfl⟩
theorem field24 (v:Vd) (w:World):(Instr.field 24 (.agg (vx v).toArray) 0).run Tryz.prog w=.ok (.int .i64 v.kind) w:=by
 have hp:(Tryz.prog.fieldsOf 24)[0]?.map (fun f=>(f.type,f.offset))=some (3,0):=by kernel_rfl
 have hu:Tryz.prog.underlying 24=some (.struct (Tryz.prog.fieldsOf 24)):=by kernel_rfl
 have hk:=aY v
 unfold Instr.field
 simp only [Sem.run_bind,run_underlying hu,Result.andThen_ok]
 cases hf:(Tryz.prog.fieldsOf 24)[0]? with
 | none=>rw [hf] at hp;cases hp
 | some f=>
  rw [hf] at hp
  simp only [Option.map_some,Option.some.injEq,Prod.mk.injEq] at hp
  obtain ⟨h1,h2⟩:=hp
  have hu3:=Tryz.underlying3
  simp [asAgg,part,isAgg,h1,h2,run_underlying hu3]
  have hk2:(vx v)[0]?=some (.int .i64 v.kind):=by simpa using hk
  rw [hk2]
  rfl
theorem nN (p:Nat) (v:Vd) (m:Md) (k:K) (w:World) (ver most:Int) (hT:AtT w p v m k) (hsz:k.flat.size≤100000) (R:Value→World→Prop)
  (CW:encE ver v.kind (1+k.flat.size:Nat) most=0→∀ W,G w W→Calls Tryz.prog 34 #[.pointer (some ⟨p,0,none⟩),.int .i64 ver] W (fun e w'=>∃ p2,e=.returned (.pointer (some ⟨p2,0,none⟩))∧Calls Tryz.prog 33 #[.pointer (some ⟨p2,0,none⟩),.int .i64 ver] w' fun e w''=>∃ u,e=.returned u∧R u w'')):
  Calls Tryz.prog 11 #[.pointer (some ⟨p,0,none⟩),.int .i64 ver,.int .i64 most] w fun e w'=>(encE ver v.kind (1+k.flat.size:Nat) most≠0∧e=.returned (.tuple #[.slice none 0 0,.int .i64 (encE ver v.kind (1+k.flat.size:Nat) most)])∧G w w')∨(encE ver v.kind (1+k.flat.size:Nat) most=0∧∃ u,e=.returned (.tuple #[u,.int .i64 0])∧R u w'):=by
 have CV:=ym p v m k w hT
 have CO:=fun W (hg:G w W)=>cD p v m k W (hT.grow hg) (by omega)
 obtain ⟨cn,hcn⟩:∃ cn,1+k.flat.size=cn:=⟨_,rfl⟩
 rw [hcn] at CW ⊢
 simp only [hcn] at CO
 have HCO:=hid CO
 have HW:=hid CW
 have HX:=hid (field24 v)
 generalize (vx v).toArray=XV at *
 generalize v.kind=kd at *
 clear CO CW hT
 by_cases h1:ver<1
 ·have HE:Hid (encE ver kd (cn:Int) most=61):=by unfold encE;rw [if_pos (.inl h1)];exact rfl
  go_enter Tryz.func11,Tryz.ntmps11
  go_wp2
  refine bodyPost_ret (results_tmp2 rfl _ _ _) rfl (.inl ?_)
  rw [HE.o]
  exact ⟨by decide,rfl,G.refl _⟩
 by_cases h2:3<ver
 ·have HE:Hid (encE ver kd (cn:Int) most=61):=by unfold encE;rw [if_pos (.inr h2)];exact rfl
  go_enter Tryz.func11,Tryz.ntmps11
  go_wp2
  refine bodyPost_ret (results_tmp2 rfl _ _ _) rfl (.inl ?_)
  rw [HE.o]
  exact ⟨by decide,rfl,G.refl _⟩
 by_cases h3:kd=1
 ·by_cases h4:min (max most 1) 1048576<(cn:Int)
  ·have HE:Hid (encE ver kd (cn:Int) most=64):=by unfold encE;rw [if_neg (by omega),if_neg (by omega),if_pos h4];exact rfl
   have x0:=HX.o
   go_enter Tryz.func11,Tryz.ntmps11
   go_wp2_with (first
  | (go_at_call 19;refine CV.mono ?_;rintro e w2 ⟨rfl,hg2⟩;have HG2:=hid hg2;clear hg2 CV)
  | (go_at_call 18;refine (HCO.o _ HG2.o).mono ?_;rintro e w3 ⟨rfl,hw3⟩;subst hw3)
  | (go_at_call 32;refine (xt most _).mono ?_;rintro e w4 ⟨rfl,hw4⟩;subst hw4)
  | (go_at_call 34;refine (HW.o HE.o _ HG2.o).mono ?_;rintro e w5 ⟨p2,rfl,C33⟩)
  | (go_at_call 33;refine C33.mono ?_;rintro e w6 ⟨u,rfl,hR⟩))
   refine bodyPost_ret (results_tmp2 rfl _ _ _) rfl (.inl ?_)
   rw [HE.o]
   exact ⟨by decide,rfl,HG2.o⟩
  ·have HE:Hid (encE ver kd (cn:Int) most=0):=by unfold encE;rw [if_neg (by omega),if_neg (by omega),if_neg h4];exact rfl
   have x0:=HX.o
   go_enter Tryz.func11,Tryz.ntmps11
   go_wp2_with (first
  | (go_at_call 19;refine CV.mono ?_;rintro e w2 ⟨rfl,hg2⟩;have HG2:=hid hg2;clear hg2 CV)
  | (go_at_call 18;refine (HCO.o _ HG2.o).mono ?_;rintro e w3 ⟨rfl,hw3⟩;subst hw3)
  | (go_at_call 32;refine (xt most _).mono ?_;rintro e w4 ⟨rfl,hw4⟩;subst hw4)
  | (go_at_call 34;refine (HW.o HE.o _ HG2.o).mono ?_;rintro e w5 ⟨p2,rfl,C33⟩)
  | (go_at_call 33;refine C33.mono ?_;rintro e w6 ⟨u,rfl,hR⟩))
   exact bodyPost_ret (results_tmp2 rfl _ _ _) rfl (.inr ⟨HE.o,_,rfl,hR⟩)
 ·have HE:Hid (encE ver kd (cn:Int) most=66):=by unfold encE;rw [if_neg (by omega),if_pos h3];exact rfl
  have x0:=HX.o
  go_enter Tryz.func11,Tryz.ntmps11
  go_wp2_with (first
  | (go_at_call 19;refine CV.mono ?_;rintro e w2 ⟨rfl,hg2⟩;have HG2:=hid hg2;clear hg2 CV)
  | (go_at_call 18;refine (HCO.o _ HG2.o).mono ?_;rintro e w3 ⟨rfl,hw3⟩;subst hw3)
  | (go_at_call 32;refine (xt most _).mono ?_;rintro e w4 ⟨rfl,hw4⟩;subst hw4)
  | (go_at_call 34;refine (HW.o HE.o _ HG2.o).mono ?_;rintro e w5 ⟨p2,rfl,C33⟩)
  | (go_at_call 33;refine C33.mono ?_;rintro e w6 ⟨u,rfl,hR⟩))
  refine bodyPost_ret (results_tmp2 rfl _ _ _) rfl (.inl ?_)
  rw [HE.o]
  exact ⟨by decide,rfl,HG2.o⟩
end Go.Proofs.YtjikkhbcbfpocaaGreatDoor
namespace Go.Proofs.YtjikkhbcbfpocaaGreatDoor
open Go.RowKit Go.Shelf
theorem xu (v:Vd):unkV (unkV v)=unkV v:=by
 unfold unkV
 by_cases h:v.kind=3
 ·simp [h]
 ·simp [h]
structure LeW (W W':World):Prop where
 os:W'.os=W.os
 tape:W'.tape=W.tape
 output:W'.output=W.output
 size:W.heap.size≤W'.heap.size
 cell:∀ b i:Nat,b<W.heap.size→W'.cell? ⟨b,i,none⟩=W.cell? ⟨b,i,none⟩∨(2≤i∧(∃ nm,W.cell? ⟨b,i-2,none⟩=some (.string nm))∧(∃ k,W.cell? ⟨b,i-1,none⟩=some (.int .i64 k)∧k≠3)∧(∃ x,W.cell? ⟨b,i,none⟩=some (.int .i64 x))∧W'.cell? ⟨b,i,none⟩=some (.int .i64 8))
theorem LeW.refl (W:World):LeW W W:=⟨rfl,rfl,rfl,Nat.le_refl _,fun _ _ _=>.inl rfl⟩
theorem LeW.trans {A B C:World} (h:LeW A B) (k:LeW B C):LeW A C:=by
 refine ⟨k.os.trans h.os,k.tape.trans h.tape,k.output.trans h.output,Nat.le_trans h.size k.size,fun b i hb=>?_⟩
 rcases k.cell b i (Nat.lt_of_lt_of_le hb h.size) with e | ⟨h2,⟨nm,hn⟩,⟨q,hq,hq3⟩,⟨x,hx⟩,h8⟩
 ·rcases h.cell b i hb with e' | ⟨h2,hn,hk,hx,h8⟩
  ·exact .inl (e.trans e')
  ·exact .inr ⟨h2,hn,hk,hx,e.trans h8⟩
 ·have n1:A.cell? ⟨b,i-2,none⟩=some (.string nm):=by
   rcases h.cell b (i-2) hb with e | ⟨_,_,_,_,e⟩
   ·rw [← e];exact hn
   ·rw [hn] at e;cases e
  have n2:A.cell? ⟨b,i-1,none⟩=some (.int .i64 q):=by
   rcases h.cell b (i-1) hb with e | ⟨_,_,⟨_,e,_⟩,_,_⟩
   ·rw [← e];exact hq
   ·rw [show i-1-1=i-2 from by omega,n1] at e;cases e
  have n3:∃ x,A.cell? ⟨b,i,none⟩=some (.int .i64 x):=by
   rcases h.cell b i hb with e | ⟨_,_,_,e,_⟩
   ·exact ⟨x,by rw [← e];exact hx⟩
   ·exact e
  exact .inr ⟨h2,⟨nm,n1⟩,⟨q,n2,hq3⟩,n3,h8⟩
theorem a0A (nm:ByteArray) (v:Vd) (m:Md) (a:Option Addr) (n c:Nat) (j:Nat) (hj:1≤j) (s:ByteArray):(nc nm v m (.slice a n c))[j]?≠some (.string s):=by
 intro h
 obtain ⟨i,rfl⟩:∃ i,j=i+1:=⟨j-1,by omega⟩
 simp only [nc,List.getElem?_toArray,List.getElem?_cons_succ] at h
 have hm:=List.mem_of_getElem? h
 simp only [vx,mx,List.mem_append,List.mem_cons,List.mem_map,List.not_mem_nil,or_false] at hm
 rcases hm with (h | h | h | ⟨x,_,h⟩) | (h | h | h | h) | h
 all_goals first | cases h | (simp [vb] at h)
theorem ec (nm:ByteArray) (v:Vd) (m:Md) (kv:Value) (j:Nat) (hj:j≠2) (x:Int):(nc nm { v with mode:=x } m kv)[j]?=(nc nm v m kv)[j]?:=by
 match j,hj with
 | 0,_=>rfl
 | 1,_=>rfl
 | j+3,_=>rfl
theorem LeW.node {W W':World} {g o:Nat} {nm:ByteArray} {v:Vd} {m:Md} {a:Option Addr} {n c:Nat} (h:LeW W W') (hl:Lies W g o (nc nm v m (.slice a n c))):∃ v',(v'=v∨v'=unkV v)∧Lies W' g o (nc nm v' m (.slice a n c)):=by
 have c0:W.cell? ⟨g,o,none⟩=some (.string nm):=by have:=hl 0 _ (kY ..);simpa using this
 have c1:W.cell? ⟨g,o+1,none⟩=some (.int .i64 v.kind):=hl 1 _ rfl
 have hgl:g<W.heap.size:=World.block_lt_of_cell? W _ c0
 have keep:∀ j u,j≠2→(nc nm v m (.slice a n c))[j]?=some u→W'.cell? ⟨g,o+j,none⟩=some u:=fun j u hj hu=>by
  rcases h.cell g (o+j) hgl with e | ⟨h2,⟨s,hs⟩,⟨k,hk,_⟩,⟨x,hx⟩,_⟩
  ·rw [e];exact hl j u hu
  ·exfalso
   match j,hj with
   | 0,_=>rw [Nat.add_zero,c0] at hx;cases hx
   | 1,_=>rw [show o+1-1=o from by omega,c0] at hk;cases hk
   | j+3,_=>
    have hlt:j+3<41:=by have:=(gS hu);rwa [jO] at this
    have he:∃ u',(nc nm v m (.slice a n c))[j+1]?=some u':=⟨_,Array.getElem?_eq_getElem (by rw [jO];omega)⟩
    obtain ⟨u',hu'⟩:=he
    have:=hl (j+1) u' hu'
    rw [show o+(j+3)-2=o+(j+1) from by omega,this] at hs
    cases hs
    exact a0A nm v m a n c (j+1) (by omega) s hu'
 rcases h.cell g (o+2) hgl with e | ⟨_,_,⟨k,hk,h3⟩,_,h8⟩
 ·refine ⟨v,.inl rfl,fun j u hu=>?_⟩
  by_cases hj:j=2
  ·subst hj;rw [e];exact hl 2 u hu
  ·exact keep j u hj hu
 ·rw [show o+2-1=o+1 from by omega,c1] at hk
  cases hk
  refine ⟨unkV v,.inr rfl,fun j u hu=>?_⟩
  unfold unkV at hu
  rw [if_neg h3] at hu
  by_cases hj:j=2
  ·subst hj
   have:u=.int .i64 8:=by cases hu;rfl
   rw [this];exact h8
  ·rw [ec _ _ _ _ _ hj] at hu
   exact keep j u hj hu
theorem LeW.row {W W':World} {P:Nat→Prop} (h:LeW W W'):∀ {f:F} {g o:Nat},kR W P f g o→∃ f':F,f'.mp unkV id=f.mp unkV id∧f'.len=f.len∧kR W' P f' g o
 | .nil,_,_,_=>⟨.nil,rfl,rfl,trivial⟩
 | .cons nm v m ks r,g,o,⟨⟨a,cap,hc,hl,hk⟩,hr⟩=>by
  obtain ⟨v',hv,hc'⟩:=h.node hc
  obtain ⟨r',e1,e2,hr'⟩:=h.row hr
  have ev:unkV v'=unkV v:=by rcases hv with rfl | rfl;rfl;exact xu v
  rcases hk with rfl | ⟨g',o',ha,hP,hk⟩
  ·exact ⟨.cons nm v' m .nil r',by simp only [F.mp,ev,e1],by simp only [F.len,e2],⟨a,cap,hc',hl,.inl rfl⟩,hr'⟩
  ·obtain ⟨k',e3,e4,hk'⟩:=h.row hk
   refine ⟨.cons nm v' m k' r',by simp only [F.mp,ev,e1,e3],by simp only [F.len,e2],⟨a,cap,by rw [e4];exact hc',by rw [e4];exact hl,.inr ⟨g',o',ha,hP,hk'⟩⟩,hr'⟩
theorem LeW.done {W W':World} {P:Nat→Prop} (h:LeW W W'):∀ {f:F} {g o:Nat},kR W P (f.mp unkV id) g o→kR W' P (f.mp unkV id) g o
 | .nil,_,_,_=>trivial
 | .cons nm v m ks r,g,o,⟨⟨a,cap,hc,hl,hk⟩,hr⟩=>by
  obtain ⟨v',hv,hc'⟩:=h.node hc
  have ev:v'=unkV v:=by rcases hv with e | e;exact e;rw [e];exact xu v
  rw [ev] at hc'
  exact ⟨⟨a,cap,hc',hl,hk.imp id fun ⟨g',o',ha,hP,hk⟩=>⟨g',o',ha,hP,h.done hk⟩⟩,h.done hr⟩
end Go.Proofs.YtjikkhbcbfpocaaGreatDoor
