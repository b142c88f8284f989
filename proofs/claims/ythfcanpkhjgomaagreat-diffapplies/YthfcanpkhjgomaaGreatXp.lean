import Derived.Test.YthfcanpkhjgomaaGreatXo
import Derived.Test.YthfcanpkhjgomaaGreatXm
import Derived.Test.YthfcanpkhjgomaaGreatDFit
set_option maxRecDepth 100000
set_option maxHeartbeats 8000000
namespace Go.Proofs.YthfcanpkhjgomaaGreat
open Go.RowKit
theorem HasNP.facts {w:World} {P:Nat→Prop} {c:Array Value} {nm:ByteArray} {v:Vd} {m:Md} {ks:F} (h:HasNP w P c nm v m ks):c.size=41∧c.all (·.oneCell')=true:=by
 obtain ⟨kv2,rfl,hk2⟩:=h
 obtain ⟨a2,cap2,rfl,_⟩:=hk2
 exact ⟨jZ ..,nc_one _ _ _ _ rfl⟩
theorem plain_any (nm:ByteArray) (v:Vd) (m:Md) (ks:F) (c:Array Value) (w:World) (hN:HasN w c nm v m ks) (hw:ks.weight≤100000):
  Calls Tryz.prog 17 #[.agg c] w fun e w'=>∃ c',e=.returned (.agg c')∧HasNP w' (New w w') c' ⟨#[]⟩ v m ks∧G w w':=by
 have hV1:=(Var.new w c).grow (G.alloc (w.alloc (.cells c 30)) (.cells z30 30))
 have hV2:=Var.new (w.alloc (.cells c 30)) z30
 rw [World.size_alloc] at hV2
 have hG:G w ((w.alloc (.cells c 30)).alloc (.cells z30 30)):=(G.alloc _ _).trans (G.alloc _ _)
 have CC:=copy_any (ks.size+1) ks (Nat.lt_succ_self _) nm v m c _ (hN.below hG) hw
 have hsz:c.size=41:=by obtain ⟨_,rfl,_⟩:=hN;exact jZ ..
 have HV:Hid (Var ((w.alloc (.cells c 30)).alloc (.cells z30 30)) w.heap.size c∧Var ((w.alloc (.cells c 30)).alloc (.cells z30 30)) (w.heap.size+1) z30∧G w ((w.alloc (.cells c 30)).alloc (.cells z30 30))∧((w.alloc (.cells c 30)).alloc (.cells z30 30)).heap.size=w.heap.size+2):=⟨hV1,hV2,hG,by simp⟩
 clear hV1 hV2 hN hG
 go_enter Tryz.func17,Tryz.ntmps17
 go_upto_region 1 with (with_reducible refine jJ (.pointer (some ⟨(w.alloc (.cells c 30)).heap.size,0,none⟩)) ((w.alloc (.cells c 30)).alloc (.cells z30 30)) ?_ ?_ ?_;exact exec_alloc30 rfl _;kernel_rfl)
 try simp only [Act.put,List.setIfInBounds_toArray,List.set_cons_zero,List.set_cons_succ,World.size_alloc]
 generalize (w.alloc (.cells c 30)).alloc (.cells z30 30)=w1 at *
 obtain ⟨B,hB⟩:∃ B,w.heap.size=B:=⟨_,rfl⟩
 rw [hB] at HV ⊢
 have HB:Hid (w.heap.size=B):=hB
 clear hB
 go_upto_region 2 with (first
  | (with_reducible refine jA (.agg c) ?_ ?_ ?_;exact jH _ rfl B 0 rfl c hsz HV.out.1.lies;kernel_rfl)
  | (go_at_call 56;refine CC.mono ?_;rintro e w2 ⟨c2,rfl,hn2,hg2⟩;have HN2:Hid (HasNP w2 (New w1 w2) c2 nm v m ks∧G w1 w2∧Var w2 B c∧Var w2 (B+1) z30):=⟨hn2,hg2,HV.out.1.grow hg2,HV.out.2.1.grow hg2⟩;clear CC hn2 hg2)
  | (with_reducible refine jP (w2.setRow B c2) ?_ ?_ ?_;exact jX _ _ rfl B c2 c rfl rfl _ HN2.out.2.2.1 HN2.out.1.facts.1 hsz HN2.out.1.facts.2;kernel_rfl))
 have hv3:Var (w2.setRow B c2) B c2:=HN2.out.2.2.1.set
 have hv4:Var (w2.setRow B c2) (B+1) z30:=(setRow_other _ B (B+1) _ (by omega)).trans HN2.out.2.2.2
 have ho3:∀ b,b≠B→(w2.setRow B c2).heap[b]?=w2.heap[b]?:=fun b hb=>setRow_other _ B b _ hb
 have hs3:(w2.setRow B c2).heap.size=w2.heap.size:=by simp
 have ht3:(w2.setRow B c2).os=w2.os∧(w2.setRow B c2).tape=w2.tape∧(w2.setRow B c2).output=w2.output:=⟨rfl,rfl,rfl⟩
 obtain ⟨kv,hkv,hks⟩:=HN2.out.1
 obtain ⟨u0,hc0⟩:=cell_of_var hv3 0 (by rw [HN2.out.1.facts.1];omega)
 have hfz:=var_frozen hv3 0
 have HV3:Hid (Var ((w2.setRow B c2).setCell ⟨B,0,none⟩ (.string ⟨#[]⟩)) B (nc ⟨#[]⟩ v m kv)∧Var ((w2.setRow B c2).setCell ⟨B,0,none⟩ (.string ⟨#[]⟩)) (B+1) z30):=by
  refine ⟨?_,(Below.heap_setCell _ _ _ _ (by show B+1≠B;omega)).trans hv4⟩
  have:=hv3.setCell 0 (.string ⟨#[]⟩)
  rw [hkv,nc_nset] at this
  rw [hkv]
  exact this
 have HO:Hid ((∀ b,b≠B→(w2.setRow B c2).heap[b]?=w2.heap[b]?)∧(w2.setRow B c2).heap.size=w2.heap.size∧(w2.setRow B c2).os=w2.os∧(w2.setRow B c2).tape=w2.tape∧(w2.setRow B c2).output=w2.output):=⟨ho3,hs3,ht3⟩
 have HKS:Hid (HasSP w2 (New w1 w2) kv ks):=hks
 have hone:(nc ⟨#[]⟩ v m kv).all (·.oneCell')=true:=by obtain ⟨a2,cap2,rfl,_⟩:=hks;exact nc_one _ _ _ _ rfl
 have HON:=hid hone
 clear hv3 hv4 ho3 hs3 ht3 hkv hks hone
 generalize w2.setRow B c2=w3 at *
 go_wp2_with (first
  | (with_reducible refine jA (.agg (nc ⟨#[]⟩ v m kv)) ?_ ?_ ?_;exact jH _ rfl B 0 rfl _ (jZ ..) HV3.out.1.lies;kernel_rfl)
  | (with_reducible refine jP ((w3.setCell ⟨B,0,none⟩ (.string ⟨#[]⟩)).setRow (B+1) (nc ⟨#[]⟩ v m kv)) ?_ ?_ ?_;exact jX _ _ rfl (B+1) _ z30 rfl rfl _ HV3.out.2 (jZ ..) jU HON.out;kernel_rfl))
 refine bodyPost_ret (results_cell_row (P:=Tryz.prog) (p:=2) (ty:=30) rfl _ _ (B+1) 30 (nc ⟨#[]⟩ v m kv) (0,0) _ rfl HV3.out.2.set under30 rfl (by rw [size30,jZ])) rfl ?_
 have hoth:∀ b,b≠B→b≠B+1→((w3.setCell ⟨B,0,none⟩ (.string ⟨#[]⟩)).setRow (B+1) (nc ⟨#[]⟩ v m kv)).heap[b]?=w2.heap[b]?:=fun b h1 h2=>
  ((setRow_other _ (B+1) b _ h2).trans (Below.heap_setCell _ _ _ b (by show b≠B;exact h1))).trans (HO.out.1 b h1)
 have hsw:=HV.out.2.2.2
 have hs2:=HN2.out.2.1.size
 have hs3:=HO.out.2.1
 have hwB:=HB.out
 refine ⟨_,rfl,⟨_,rfl,HKS.out.keep fun b hb=>⟨hoth b (by have:=hb.1;omega) (by have:=hb.1;omega),by have:=hb.1;omega,by have:=hb.2;simp;omega⟩⟩,?_⟩
 refine Below.trans (B:=w.heap.size) (HV.out.2.2.1.trans HN2.out.2.1) ⟨HO.out.2.2.1,HO.out.2.2.2.1,HO.out.2.2.2.2,by simp;omega,fun b hb=>hoth b (by omega) (by omega)⟩
open Ch
structure Fa (w:World) (c1:Array Value) (nm:ByteArray) (v:Vd) (m:Md) (ks:F) (B:Nat) (ao:Option Addr) (n cp:Nat) (L:List Cd) (W:World):Prop where
 n1:HasN W c1 nm v m ks
 r1:Var W B c1
 l:HasA W (.slice ao n cp) L
 g:G w W
theorem Fa.grow {w W W':World} {c1:Array Value} {nm:ByteArray} {v:Vd} {m:Md} {ks:F} {B:Nat} {ao:Option Addr} {n cp:Nat} {L:List Cd} (h:Fa w c1 nm v m ks B ao n cp L W) (g:G W W'):Fa w c1 nm v m ks B ao n cp L W':=
 ⟨h.n1.below g,h.r1.grow g,h.l.below g,h.g.trans g⟩
theorem Ch.Sp.g {W2 wr:World} {R F c n:Nat} {B2:Nat→Prop} {X:List Ch.Cd} (h:Ch.Sp W2 R F c n B2 X wr):G W2 wr:=by
 have h1:=h.bel
 rw [← h.sz] at h1
 exact h1
theorem ap_zero {t:T3} {L:List Cd} (h:apE t L=0):∃ z,apM t L=some z:=by
 unfold apE at h
 split at h
 ·cases h
 ·split at h
  ·cases h
  ·cases hz:apM t L with
   | none=>rw [hz] at h;cases h
   | some z=>exact ⟨z,rfl⟩
theorem same13_ok {ao bo:Option Addr} {cp cq n:Nat} {L:List Cd} {w:World} (hn:L.length=n) (ha:HasA w (.slice ao n cp) L) (hb:HasA w (.slice bo n cq) L) (h:n≤1000000):
  Calls Tryz.prog 13 #[.slice ao n cp,.slice bo n cq] w fun e w'=>e=.returned (.bool true)∧G w w':=by
 subst hn
 refine (Ch.same_any ao bo cp cq L w ha hb h).mono ?_
 rintro e w' ⟨rfl,d⟩
 exact ⟨rfl,d.below⟩
structure Fz (Y1:World) (R F c n:Nat) (B2:Nat→Prop) (Wz:World) (T:Nat) (cw:Array Value) (z:T3) (X:List Cd) (W:World):Prop where
 sp:Ch.Sp Y1 R F c n B2 X W
 vt:Var W T cw
 wn:HasNP W (NewC Wz W) cw ⟨#[]⟩ z.1 z.2.1 z.2.2
theorem Fz.up {Y1:World} {R F c n:Nat} {B2:Nat→Prop} {Wz:World} {T:Nat} {cw:Array Value} {z:T3} {X:List Cd} {W W':World} (h:Fz Y1 R F c n B2 Wz T cw z X W) (g:G W W'):Fz Y1 R F c n B2 Wz T cw z X W':=
 ⟨h.sp.up g,h.vt.grow g,HasNP.up h.wn g⟩
theorem setCells_far {w:World} {F o:Nat} {vs:List Value}:∀ b,b≠F→(w.setCells F o vs).heap[b]?=w.heap[b]?:=fun b hb=>jt F vs o w b hb
theorem Fz.set {Y1:World} {R F c n:Nat} {B2:Nat→Prop} {Wz:World} {T:Nat} {cw:Array Value} {z:T3} {X:List Cd} {W:World} (h:Fz Y1 R F c n B2 Wz T cw z X W) (hF:F<Wz.heap.size) (hT:F<T) {k:Nat} {x x':Cd} (hx:X[k]?=some x):Fz Y1 R F c n B2 Wz T cw z (X.set k x') (W.setCells F (k*71) (cc x').toList):=
 ⟨h.sp.set hx,(setCells_far T (by omega)).trans h.vt,h.wn.far hF setCells_far⟩
theorem node16_any {p:Nat} {t:T3} {w:World} (ht:T1 w p t) (hs:t.2.2.size≤100000):Calls Tryz.prog 16 #[.pointer (some ⟨p,0,none⟩)] w fun e w'=>∃ c',e=.returned (.agg c')∧HasN w' c' ⟨#[]⟩ t.1 t.2.1 t.2.2∧Below w.heap.size w w':=by
 obtain ⟨k,h1,h2,_,_,_⟩:=ht
 refine (treeNode_any (k.flat.size+1) k (Nat.lt_succ_self _) p t.1 t.2.1 w h1 (by rw [h2];exact hs)).mono ?_
 rintro e w' ⟨c',rfl,hn,hg⟩
 rw [h2] at hn
 exact ⟨c',rfl,hn.has,hg⟩
theorem equal15_ok {c d:Array Value} {nm nm':ByteArray} {v:Vd} {m:Md} {ks:F} {w:World} (h1:HasN w c nm v m ks) (h2:HasN w d nm' v m ks) (hs:ks.size≤100000):Calls Tryz.prog 15 #[.agg c,.agg d] w fun e w'=>e=.returned (.bool true)∧Below w.heap.size w w':=by
 refine (equal_any (ks.size+1) ks (Nat.lt_succ_self _) nm nm' v v m m ks c d w h1 h2 (by unfold F.okL;omega) (by unfold F.okL;omega)).mono ?_
 rintro e w' ⟨rfl,hg⟩
 exact ⟨by simp,hg⟩
theorem plain17_any {c:Array Value} {nm:ByteArray} {v:Vd} {m:Md} {ks:F} {w:World} (h:HasN w c nm v m ks) (hw:ks.weight≤100000):Calls Tryz.prog 17 #[.agg c] w fun e w'=>∃ c',e=.returned (.agg c')∧HasN w' c' ⟨#[]⟩ v m ks∧Below w.heap.size w w':=by
 refine (plain_any nm v m ks c w h hw).mono ?_
 rintro e w' ⟨c',rfl,hn,hg⟩
 exact ⟨c',rfl,hn.has,hg⟩
theorem diffApplies_walk (c1:Array Value) (nm1:ByteArray) (v1:Vd) (m1:Md) (ks1:F) (ao:Option Addr) (cp:Nat) (L:List Cd) (w:World) (hN1:HasN w c1 nm1 v1 m1 ks1) (hL:HasA w (.slice ao L.length cp) L)
  (hnm1:nm1.size≤9223372036854775807) (hok1:ks1.ok) (hlen1:ks1.len≤9223372036854775807) (hLn:L.length≤9223372036854775807) (hLp:∀ c∈L,c.path.size≤9223372036854775807):
  Calls Tryz.prog 3 #[.agg c1,.slice ao L.length cp] w fun e w'=>e=.returned (.bool true)∧G w w':=by
 have cs1:c1.size=41:=by obtain ⟨_,rfl,_⟩:=hN1;exact jZ ..
 obtain ⟨B,hB⟩:∃ B,w.heap.size=B:=⟨_,rfl⟩
 obtain ⟨n,hn⟩:∃ n,L.length=n:=⟨_,rfl⟩
 obtain ⟨W1,hW1⟩:∃ W1,w.alloc (.cells c1 30)=W1:=⟨_,rfl⟩
 have g1:G w W1:=by rw [← hW1];exact G.alloc w _
 have r1:Var W1 B c1:=by rw [← hW1,← hB];exact Var.new _ _
 have CF:Hid (∀ W,G w W→Calls Tryz.prog 7 #[.slice ao n cp] W fun e w'=>∃ b,e=.returned (.bool b)∧(b=true→parts L≤6000)∧G W w'):=fun W hW=>by
  have:=few_any ao cp L W (hL.below hW) hLn hLp
  rwa [hn] at this
 rw [hn] at hL ⊢
 have HN0:Hid (Fa w c1 nm1 v1 m1 ks1 B ao n cp L W1):=⟨hN1.below g1,r1,hL.below g1,g1⟩
 have C1:=hid (fits_any c1 nm1 v1 m1 ks1 W1 HN0.out.n1 hnm1 hok1 hlen1)
 have HLN:=hid hn
 clear hN1 hL g1 r1 hnm1 hok1 hlen1 hLn hLp hn
 go_enter Tryz.func3,Tryz.ntmps3
 go_upto_region 1 with fail
 clear hW1
 go_upto_region 3 with (first
  | ((with_reducible refine jA (.agg c1) ?_ ?_ ?_);exact jH _ rfl B 0 rfl c1 cs1 HN0.out.r1.lies;kernel_rfl)
  | (go_at_call 7;refine (CF.out _ H1.out.2.g).mono ?_;rintro e X2 ⟨b2,rfl,h2,gx⟩;have H2:=hid (And.intro h2 (H1.out.2.grow gx));clear h2 gx;cases b2)
  | (go_at_call 6;refine C1.out.mono ?_;rintro e X1 ⟨b1,rfl,h1,gx⟩;have H1:=hid (And.intro h1 (HN0.out.grow gx));clear h1 gx;cases b1))
 ·go_ret
  exact ⟨rfl,H1.out.2.g⟩
 ·go_ret
  exact ⟨rfl,H2.out.2.g⟩
 have hp2:parts L≤6000:=H2.out.1 (by first | rfl | trivial)
 obtain ⟨hw1,he1⟩:=H1.out.1 (by first | rfl | trivial)
 have HN:=hid H2.out.2
 clear HN0 H1 H2 C1 CF
 have D1:=hid (grown5_any c1 nm1 v1 m1 ks1 X2 HN.out.n1 hw1 he1)
 go_wp2_with ((with_reducible refine jA (.agg c1) ?_ ?_ ?_);exact jH _ rfl B 0 rfl c1 cs1 HN.out.r1.lies;kernel_rfl)
 refine D1.out.mono ?_
 rintro e Y1 ⟨p,k1,rfl,ta1,f1,pl1,tr1,gx⟩
 replace HN:=hid (HN.out.grow gx)
 have HT1:Hid (T1 Y1 p (v1,m1,ks1)):=AtTF.of ta1 pl1 tr1 f1
 clear ta1 f1 pl1 tr1 gx D1
 obtain ⟨t,et⟩:∃ t:T3,t=(v1,m1,ks1):=⟨_,rfl⟩
 rw [← et] at HT1
 have gt:Good t:=by rw [et];exact ⟨he1⟩
 have et1:v1=t.1:=by rw [et]
 have et2:m1=t.2.1:=by rw [et]
 have et3:ks1=t.2.2:=by rw [et]
 subst et1 et2 et3
 clear et he1
 have hL6:n≤6000:=by have:=parts_len L;have:=HLN.out;omega
 have HSM:Hid (∀ c∈L,c.path.size≤1048576):=fun c hc=>by have:=parts_mem L c hc;omega
 have HGT:=hid (And.intro gt hw1)
 have hsw:=F.size_le_weight t.2.2
 have HSZ:Hid (t.2.2.size≤6000):=by show _≤_;omega
 clear gt hw1 hp2 hsw
 obtain ⟨R,hR⟩:∃ R,Y1.heap.size=R:=⟨_,rfl⟩
 obtain ⟨w3,hw3⟩:∃ w3,Y1.alloc (.cells Ch.roomCells 53)=w3:=⟨_,rfl⟩
 have s3:w3.heap.size=R+1:=by rw [← hw3,World.size_alloc,hR]
 have g3:G Y1 w3:=by rw [← hw3];exact G.alloc _ _
 have g3R:Below R Y1 w3:=by have:=g3;unfold G at this;rwa [hR] at this
 have C9:Hid (Calls Tryz.prog 9 #[.pointer (some ⟨R,0,none⟩),.slice ao n cp] w3 fun e w'=>∃ F c B',e=.returned (.slice (some ⟨F,0,none⟩) n (n+40))∧Ch.Sp Y1 R F c n B' L w'):=by
  have rm:Ch.RoomOk w3 R R [] (fun b=>b=R):=by
   have:=Ch.room_new Y1 R
   rw [hR,hw3] at this
   exact this
  have h9:=Ch.lay5_any R R [] (fun b=>b=R) ao cp L w3 (by rw [HLN.out];exact HN.out.l.below g3) (by rw [HLN.out];omega) (by simp) rm (by omega) (Nat.le_refl _)
  rw [HLN.out] at h9
  refine h9.mono ?_
  rintro e w' ⟨F,c,B',rfl,q1,q2,q3,q4,_,q6⟩
  exact ⟨F,c,B',rfl,g3R.trans q6,hR,q1,row_low q4 (by omega),HLN.out,q3⟩
 clear g3 g3R
 go_upto_region 7 with (refine Ch.wpList_new 53 Ch.roomCells Ch.built40 rfl rfl rfl _ rfl rfl ?_)
 go_upto_region 8 with (go_at_call 9;refine C9.out.mono ?_;rintro e w5 ⟨F,cF,B2,rfl,hs⟩;have HS:=hid hs;clear hs C9)
 clear hw3 s3 hR
 have hnF:F<w5.heap.size:=(World.ownsRow.lt HS.out.o1 F rfl).2
 have HB5:=hid (HN.out.grow HS.out.g)
 have C10:Hid (Calls Tryz.prog 10 #[.agg c1,.slice ao n cp] w5 (RfTo t L w5)):=by
  have:=refApply_any t HGT.out.1 c1 nm1 ao cp L w5 HB5.out.n1 (by rw [HLN.out];exact HB5.out.l) HGT.out.2 (by rw [HLN.out];omega) HSM.out
  rwa [HLN.out] at this
 unfold RfTo at C10
 obtain ⟨E,hE⟩:∃ E,apE t L=E:=⟨_,rfl⟩
 have HE:=hid hE
 rw [hE] at C10
 clear hE
 go_upto_region 9 with (first
  | ((with_reducible refine jA (.agg c1) ?_ ?_ ?_);exact jH _ rfl B 0 rfl c1 cs1 HB5.out.r1.lies;kernel_rfl)
  | (go_at_call 10;refine C10.out.mono ?_;rintro e w6 ⟨cw,rfl,g6,s6,o6,k6⟩;obtain ⟨T,hT⟩:∃ T,w6.heap.size=T:=⟨_,rfl⟩;obtain ⟨w8,hw8⟩:∃ w8,(w6.alloc (.cells z30 30)).setRow T cw=w8:=⟨_,rfl⟩;have H6:=hid (And.intro g6 (And.intro s6 (And.intro o6 (And.intro k6 (And.intro hT hw8)))));clear g6 s6 o6 k6 hw8 C10)
  | ((with_reducible refine jJ (.pointer (some ⟨T,0,none⟩)) (w6.alloc (.cells z30 30)) ?_ ?_ ?_);exact jf rfl _ T H6.out.2.2.2.2.1;kernel_rfl)
  | ((with_reducible refine jP w8 ?_ ?_ ?_);(rw [← H6.out.2.2.2.2.2];exact jX _ _ rfl T cw z30 rfl rfl _ (by rw [← H6.out.2.2.2.2.1];exact Var.new _ z30) H6.out.2.1 jU H6.out.2.2.1);kernel_rfl))
 have HV:Hid (G w6 w8∧Var w8 T cw∧F<T):=by
  obtain ⟨n1,n2,_⟩:=new_var w6 cw
  have h6:=H6.out.1.size
  have hT':=H6.out.2.2.2.2.1
  rw [hT',H6.out.2.2.2.2.2] at n1 n2
  exact ⟨n1,n2,by omega⟩
 have HS8:=hid ((HS.out.up H6.out.1).up HV.out.1)
 clear hT HS HB5
 by_cases hE0:E=0
 case neg=>
  have hEb:(E==0)=false:=by simpa using hE0
  clear H6 HV
  go_wp2
  go_loopg [11,12] 2 (fun gh u i wr=>∃ k:Nat,k≤2∧gh=2-k∧u=.pointer none∧i=.int .i64 (k:Int)∧Hid (Ch.Sp Y1 R F cF n B2 L wr))
  case atStart=>exact ⟨0,by omega,rfl,rfl,rfl,HS8.out⟩
  case round=>
   clear HS8
   obtain ⟨k,hk,rfl,rfl,rfl,HS⟩:=hrel
   by_cases hlt:k<2
   ·have kI:(k:Int)<2:=by omega
    have CA:Hid (Calls Tryz.prog 11 #[.pointer (some ⟨p,0,none⟩),.slice (some ⟨F,0,none⟩) n (n+40)] wr fun e w'=>e=.returned (.tuple #[.pointer none,.int .i64 E])∧G wr w'):=by
     have h:=apply_any p t (some ⟨F,0,none⟩) (n+40) L wr (HT1.out.grow HS.out.g) HGT.out.1.rises (by rw [HLN.out];exact Ch.x_of HS.out.o1 HS.out.lx (by omega)) (by rw [HLN.out];omega) (by have:=HSZ.out;omega) HSM.out
     rw [HLN.out] at h
     refine h.mono ?_
     rintro e w' ⟨u,rfl,hg,h1,_⟩
     rw [HE.out] at h1 ⊢
     rw [h1 hE0]
     exact ⟨rfl,hg⟩
    go_upto_region 14 with (go_at_call 11;refine CA.out.mono ?_;rintro e w9 ⟨rfl,g9⟩;have H9:=hid (HS.out.up g9);clear g9 CA)
    go_upto_region 16 with (first
     | (go_at_call 12;refine (num_any _ _).mono ?_;rintro e Wn ⟨rfl,en⟩;subst en)
     | (go_at_call 13;refine (same13_ok HLN.out (Ch.x_of H9.out.o1 H9.out.lx (by omega)) (HN.out.l.below H9.out.g) (by omega)).mono ?_;rintro e w10 ⟨rfl,g10⟩;have H10:=hid (H9.out.up g10);clear g10)
     | (go_at_call 14;refine (H10.out.hold (by omega)).mono ?_;rintro e w11 ⟨rfl,g11⟩;have H11:=hid (H10.out.up g11);clear g11))
    refine regZ16 () _ w11 rfl rfl fun w12 b12=>?_
    rw [foldZ16]
    have H12:=hid (H11.out.up b12)
    clear b12
    go_simp
    go_wp2
    go_roundg (2-(k+1))
    case measure=>omega
    case rel=>exact ⟨k+1,by omega,rfl,rfl,by go_num,H12.out⟩
   ·obtain rfl:k=2:=by omega
    have kI:¬ ((2:Nat):Int)<2:=by omega
    go_wp2
    go_loopg [15] n (fun gh i wr=>∃ k:Nat,k≤n∧gh=n-k∧i=.int .i64 (k:Int)∧∃ X,Hid (Ch.Sp Y1 R F cF n B2 X wr))
    case atStart=>exact ⟨0,by omega,rfl,rfl,L,HS.out⟩
    case round=>
     clear HS
     obtain ⟨j,hj,rfl,rfl,X,HX⟩:=hrel
     by_cases hlt2:j<n
     ·have jI:(j:Int)<(n:Int):=by omega
      have j0:(0:Int)≤(j:Int):=by omega
      obtain ⟨x,hx⟩:∃ x,X[j]?=some x:=⟨X[j]'(by rw [HX.out.lx];exact hlt2),by simp⟩
      obtain ⟨Z,hZ⟩:∃ Z,cc (chP ⟨#[115,112,111,105,108,116]⟩)=Z:=⟨_,rfl⟩
      obtain ⟨w1,hw1⟩:∃ w1,wr.setCells F (j*71) Z.toList=w1:=⟨_,rfl⟩
      have HZ:=hid (And.intro hZ (And.intro (show Z.size=71 by rw [← hZ,jl]) (And.intro (show Z.all (·.oneCell')=true by rw [← hZ];exact cc_one _) (And.intro (HX.out.there hlt2) (And.intro hw1 (show Ch.Sp Y1 R F cF n B2 (X.set j (chP ⟨#[115,112,111,105,108,116]⟩)) w1 by rw [← hw1,← hZ];exact HX.out.set hx))))))
      clear hx hZ hw1 HX
      go_wp2_with (first
       | ((with_reducible refine jA (.agg Z) ?_ ?_ ?_);(rw [← HZ.out.1];exact Ch.exec_build55p _ rfl _ rfl _);kernel_rfl)
       | ((with_reducible refine jP w1 ?_ ?_ ?_);(rw [← HZ.out.2.2.2.2.1];exact Ch.exec_storeM 66 _ _ rfl F (j*71) Z rfl rfl _ (by rw [HZ.out.2.1];exact HZ.out.2.2.2.1) (by rw [Ch.size55,HZ.out.2.1]) HZ.out.2.2.1);kernel_rfl))
      go_roundg (n-(j+1))
      case measure=>omega
      case rel=>exact ⟨j+1,by omega,rfl,by go_num,_,HZ.out.2.2.2.2.2⟩
     ·obtain rfl:j=n:=by omega
      have jI:¬ ((j:Int)<(j:Int)):=by omega
      have HBX:=hid (HN.out.grow HX.out.g)
      have HTX:=hid (HT1.out.grow HX.out.g)
      go_upto_region 23 with fail
      refine regZ23 B R p c1 (fun c W=>HasN W c ⟨#[]⟩ t.1 t.2.1 t.2.2) (fun c W=>HasN W c ⟨#[]⟩ t.1 t.2.1 t.2.2) _ wr rfl rfl rfl rfl rfl HBX.out.r1.lies cs1 ?f2 ?g2 ?c2 ?d2 ?e2 ?hh fun r wz bz=>?_
      case f2=>exact fun c W W' h hb=>h.below hb
      case g2=>exact fun c W W' h hb=>h.below hb
      case c2=>exact fun W hb=>node16_any (HTX.out.grow hb) (by have:=HSZ.out;omega)
      case d2=>exact fun W hb=>plain17_any (HBX.out.n1.below hb) (by have:=HGT.out.2;omega)
      case e2=>exact fun a b W h1 h2=>equal15_ok h1 h2 (by have:=HSZ.out;omega)
      case hh=>exact fun W hb=>(HX.out.up hb).hold (by omega)
      rw [foldZ23]
      have HR:=hid (HBX.out.g.trans bz)
      clear bz
      go_simp
      go_wp2
      go_ret
      exact ⟨rfl,HR.out⟩
 subst hE0
 obtain ⟨z,hz⟩:=ap_zero HE.out
 obtain ⟨hwn,hzs⟩:=H6.out.2.2.2.1 z rfl hz
 have HZS:Hid (z.2.2.size≤20000):=hzs
 have HFz:Hid (Fz Y1 R F cF n B2 w5 T cw z L w8):=⟨HS8.out,HV.out.2.1,HasNP.up hwn HV.out.1⟩
 have HZ0:=hid hz
 have HFT:Hid (F<T∧cw.size=41):=⟨HV.out.2.2,H6.out.2.1⟩
 clear hz hwn hzs H6 HV HS8
 go_wp2
 go_loopg [11,12] 2 (fun gh u i wr=>∃ k:Nat,k≤2∧gh=2-k∧i=.int .i64 (k:Int)∧Hid (Fz Y1 R F cF n B2 w5 T cw z L wr)∧Hid (u=.pointer none∨∃ p3,u=.pointer (some ⟨p3,0,none⟩)∧T1 wr p3 z))
 case atStart=>exact ⟨0,by omega,rfl,rfl,HFz.out,.inl rfl⟩
 case round=>
  clear HFz
  obtain ⟨k,hk,rfl,rfl,HS,HU⟩:=hrel
  by_cases hlt:k<2
  ·have kI:(k:Int)<2:=by omega
   have CA:Hid (Calls Tryz.prog 11 #[.pointer (some ⟨p,0,none⟩),.slice (some ⟨F,0,none⟩) n (n+40)] wr fun e w'=>∃ p3,e=.returned (.tuple #[.pointer (some ⟨p3,0,none⟩),.int .i64 0])∧G wr w'∧T1 w' p3 z):=by
    have h:=apply_any p t (some ⟨F,0,none⟩) (n+40) L wr (HT1.out.grow HS.out.sp.g) HGT.out.1.rises (by rw [HLN.out];exact Ch.x_of HS.out.sp.o1 HS.out.sp.lx (by omega)) (by rw [HLN.out];omega) (by have:=HSZ.out;omega) HSM.out
    rw [HLN.out] at h
    refine h.mono ?_
    rintro e w' ⟨u,rfl,hg,_,h2⟩
    rw [HE.out] at h2 ⊢
    obtain ⟨r,p',e1,rfl,h3⟩:=h2 rfl
    rw [HZ0.out] at e1
    cases e1
    exact ⟨p',rfl,hg,h3⟩
   clear HU
   go_upto_region 14 with (go_at_call 11;refine CA.out.mono ?_;rintro e w9 ⟨p3,rfl,g9,t9⟩;have H9:=hid (And.intro (HS.out.up g9) t9);clear g9 t9 CA)
   go_upto_region 16 with (first
    | (go_at_call 12;refine (num_any _ _).mono ?_;rintro e Wn ⟨rfl,en⟩;subst en)
    | (go_at_call 13;refine (same13_ok HLN.out (Ch.x_of H9.out.1.sp.o1 H9.out.1.sp.lx (by omega)) (HN.out.l.below H9.out.1.sp.g) (by omega)).mono ?_;rintro e w10 ⟨rfl,g10⟩;have H10:=hid (And.intro (H9.out.1.up g10) (H9.out.2.grow g10));clear g10)
    | (go_at_call 14;refine (H10.out.1.sp.hold (by omega)).mono ?_;rintro e w11 ⟨rfl,g11⟩;have H11:=hid (And.intro (H10.out.1.up g11) (H10.out.2.grow g11));clear g11))
   refine regN16 T p3 cw (fun c W=>HasN W c ⟨#[]⟩ z.1 z.2.1 z.2.2) _ w11 rfl rfl rfl H11.out.1.vt.lies HFT.out.2 ?f1 ?k1 ?e1 fun r w12 b12=>?_
   case f1=>exact fun c W W' h hb=>h.below hb
   case k1=>exact fun W hb=>node16_any (H11.out.2.grow hb) (by have:=HZS.out;omega)
   case e1=>exact fun a W hb h1=>equal15_ok h1 (H11.out.1.up hb).wn.has (by have:=HZS.out;omega)
   rw [foldN16]
   have H12:=hid (And.intro (H11.out.1.up b12) (H11.out.2.grow b12))
   clear b12
   go_simp
   go_wp2
   go_roundg (2-(k+1))
   case measure=>omega
   case rel=>exact ⟨k+1,by omega,rfl,by go_num,H12.out.1,.inr ⟨p3,rfl,H12.out.2⟩⟩
  ·obtain rfl:k=2:=by omega
   have kI:¬ ((2:Nat):Int)<2:=by omega
   go_wp2
   go_loopg [15] n (fun gh i wr=>∃ k:Nat,k≤n∧gh=n-k∧i=.int .i64 (k:Int)∧∃ X,Hid (Fz Y1 R F cF n B2 w5 T cw z X wr)∧Hid (u11=.pointer none∨∃ p3,u11=.pointer (some ⟨p3,0,none⟩)∧T1 wr p3 z))
   case atStart=>exact ⟨0,by omega,rfl,rfl,L,HS.out,HU.out⟩
   case round=>
    clear HS HU
    obtain ⟨j,hj,rfl,rfl,X,HX,HU⟩:=hrel
    by_cases hlt2:j<n
    ·have jI:(j:Int)<(n:Int):=by omega
     have j0:(0:Int)≤(j:Int):=by omega
     obtain ⟨x,hx⟩:∃ x,X[j]?=some x:=⟨X[j]'(by rw [HX.out.sp.lx];exact hlt2),by simp⟩
     obtain ⟨Z,hZ⟩:∃ Z,cc (chP ⟨#[115,112,111,105,108,116]⟩)=Z:=⟨_,rfl⟩
     obtain ⟨w1,hw1⟩:∃ w1,wr.setCells F (j*71) Z.toList=w1:=⟨_,rfl⟩
     have HU1:Hid (u11=.pointer none∨∃ p3,u11=.pointer (some ⟨p3,0,none⟩)∧T1 w1 p3 z):=by
      rcases HU.out with h | ⟨p3,h,h2⟩
      ·exact .inl h
      ·exact .inr ⟨p3,h,by rw [← hw1];exact HX.out.sp.tree setCells_far h2⟩
     have HZ:=hid (And.intro hZ (And.intro (show Z.size=71 by rw [← hZ,jl]) (And.intro (show Z.all (·.oneCell')=true by rw [← hZ];exact cc_one _) (And.intro (HX.out.sp.there hlt2) (And.intro hw1 (show Fz Y1 R F cF n B2 w5 T cw z (X.set j (chP ⟨#[115,112,111,105,108,116]⟩)) w1 by rw [← hw1,← hZ];exact HX.out.set hnF HFT.out.1 hx))))))
     clear hx hZ hw1 HX HU
     go_wp2_with (first
      | ((with_reducible refine jA (.agg Z) ?_ ?_ ?_);(rw [← HZ.out.1];exact Ch.exec_build55p _ rfl _ rfl _);kernel_rfl)
      | ((with_reducible refine jP w1 ?_ ?_ ?_);(rw [← HZ.out.2.2.2.2.1];exact Ch.exec_storeM 66 _ _ rfl F (j*71) Z rfl rfl _ (by rw [HZ.out.2.1];exact HZ.out.2.2.2.1) (by rw [Ch.size55,HZ.out.2.1]) HZ.out.2.2.1);kernel_rfl))
     go_roundg (n-(j+1))
     case measure=>omega
     case rel=>exact ⟨j+1,by omega,rfl,by go_num,_,HZ.out.2.2.2.2.2,HU1⟩
    ·obtain rfl:j=n:=by omega
     have jI:¬ ((j:Int)<(j:Int)):=by omega
     have HBX:=hid (HN.out.grow HX.out.sp.g)
     have HTX:=hid (HT1.out.grow HX.out.sp.g)
     rcases HU.out with hu | ⟨p3,hu,h3⟩
     ·subst hu
      go_upto_region 23 with fail
      refine regZ23 B R p c1 (fun c W=>HasN W c ⟨#[]⟩ t.1 t.2.1 t.2.2) (fun c W=>HasN W c ⟨#[]⟩ t.1 t.2.1 t.2.2) _ wr rfl rfl rfl rfl rfl HBX.out.r1.lies cs1 ?f2 ?g2 ?c2 ?d2 ?e2 ?hh fun r wz bz=>?_
      case f2=>exact fun c W W' h hb=>h.below hb
      case g2=>exact fun c W W' h hb=>h.below hb
      case c2=>exact fun W hb=>node16_any (HTX.out.grow hb) (by have:=HSZ.out;omega)
      case d2=>exact fun W hb=>plain17_any (HBX.out.n1.below hb) (by have:=HGT.out.2;omega)
      case e2=>exact fun a b W h1 h2=>equal15_ok h1 h2 (by have:=HSZ.out;omega)
      case hh=>exact fun W hb=>(HX.out.sp.up hb).hold (by omega)
      rw [foldZ23]
      have HR:=hid (HBX.out.g.trans bz)
      clear bz
      go_simp
      go_wp2
      go_ret
      exact ⟨rfl,HR.out⟩
     ·subst hu
      have HT3:=hid h3
      clear h3
      go_upto_region 23 with fail
      refine regS23 T B R p p3 cw c1 (fun c W=>HasN W c ⟨#[]⟩ z.1 z.2.1 z.2.2) (fun c W=>HasN W c ⟨#[]⟩ t.1 t.2.1 t.2.2) (fun c W=>HasN W c ⟨#[]⟩ t.1 t.2.1 t.2.2) _ wr rfl rfl rfl rfl rfl rfl HX.out.vt.lies HFT.out.2 ?f1 ?k1 ?e1 HBX.out.r1.lies cs1 ?f2 ?g2 ?c2 ?d2 ?e2 ?hh fun r wz bz=>?_
      case f1=>exact fun c W W' h hb=>h.below hb
      case k1=>exact fun W hb=>node16_any (HT3.out.grow hb) (by have:=HZS.out;omega)
      case e1=>exact fun a W hb h1=>equal15_ok h1 (HX.out.up hb).wn.has (by have:=HZS.out;omega)
      case f2=>exact fun c W W' h hb=>h.below hb
      case g2=>exact fun c W W' h hb=>h.below hb
      case c2=>exact fun W hb=>node16_any (HTX.out.grow hb) (by have:=HSZ.out;omega)
      case d2=>exact fun W hb=>plain17_any (HBX.out.n1.below hb) (by have:=HGT.out.2;omega)
      case e2=>exact fun a b W h1 h2=>equal15_ok h1 h2 (by have:=HSZ.out;omega)
      case hh=>exact fun W hb=>(HX.out.sp.up hb).hold (by omega)
      rw [foldS23]
      have HR:=hid (HBX.out.g.trans bz)
      clear bz
      go_simp
      go_wp2
      go_ret
      exact ⟨rfl,HR.out⟩
end Go.Proofs.YthfcanpkhjgomaaGreat
