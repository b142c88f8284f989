import Derived.Test.YthfcanpkhjgomaaGreatXh
set_option maxRecDepth 100000
set_option maxHeartbeats 16000000
namespace Go.Proofs.YthfcanpkhjgomaaGreat
open Go.RowKit
theorem under_pth {M N:List ByteArray} (hM:goodM M) (hN:goodM N):underB (tl (pth N)) (tl (pth M))=true↔M <+: N:=by
 rw [underB_iff,← under_pieces]
 unfold pth
 rw [qF,qF,qA (good_map hM),qA (good_map hN)]
 constructor
 ·rintro ⟨t,e⟩
  have:N.map tl=(M++t.map ofB).map tl:=by
   rw [List.map_append,List.map_map,← e]
   congr 1
   conv=>lhs;rw [← List.map_id t]
   exact List.map_congr_left fun x _=>(qF x).symm
  exact ⟨t.map ofB,(map_tl_inj this).symm⟩
 ·rintro ⟨t,rfl⟩
  exact ⟨t.map tl,by rw [List.map_append]⟩
theorem head_of_drop {O:List Et} {k:Nat} {x:Et} {T:List Et} (h:O.drop k=x::T):O[k]?=some x:=by
 have:=congrArg (fun L=>L[0]?) h
 simpa [List.getElem?_drop] using this
theorem drop_next {O A B:List Et} {k:Nat} (h:O.drop k=A++B):O.drop (k+A.length)=B:=by
 rw [← List.drop_drop,h,List.drop_left]
theorem rises_drop:∀ {f:F} (i:Nat),f.rises→goodN f→(f.drop i).rises∧goodN (f.drop i)
 | f,0,h,g=>by rw [F.drop_zero];exact ⟨h,g⟩
 | .nil,_+1,h,g=>⟨h,g⟩
 | .cons _ _ _ _ r,i+1,h,g=>by
  have h':=h
  simp only [F.rises] at h'
  exact rises_drop (f:=r) i h'.2.2 g.2.2
theorem ju {fn:Func} {p u:Tmp} (h:fn.results=#[.cell p 30,.tmp u]) (tmps:Array Value) (w:World) (g:Nat) (cs:Array Value) (hp:tmps.getD p undef=.pointer (some ⟨g,0,none⟩)) (hg:Var w g cs) (hs:cs.size=41):
  (results fn tmps).run Tryz.prog w=.ok (.tuple #[.agg cs,tmps.getD u undef]) w:=by
 have hu:Tryz.prog.underlying 30=some (.struct (Tryz.prog.fieldsOf 30)):=by kernel_rfl
 rw [results_cell_tmp h,hp]
 simp only [asAddr,Sem.run_pure,Result.andThen_ok,run_loadVar_row (P:=Tryz.prog) w g 30 30 cs (0,0) _ hg hu rfl (by rw [size30,hs])]
def GrowOk (ks:F):Prop:=∀ (n0:ByteArray) (v:Vd) (m:Md) (M:List ByteArray) (O:List Et) (k:Nat) (R:List Et) (ao:Option Addr) (cp:Nat) (w:World),
 HasE w (.slice ao O.length cp) O→O.length≤100000→(∀ e∈O,e.p.size≤1048576)→O.drop k=(⟨pth M,v,m⟩::flatK (pth M) ks)++R→goodM M→goodN ks→ks.rises→
 (∀ e R',R=e::R'→M≠[]∧∃ N,goodM N∧e.p=pth N∧¬ M <+: N)→ks.len≤100000→
 Calls Tryz.prog 80 #[.slice ao O.length cp,.int .i64 (k:Int),.string n0] w fun e w'=>∃ c,e=.returned (.tuple #[.agg c,.int .i64 ((k+1+ks.size:Nat):Int)])∧HasNP w' (NewC w w') c n0 v m ks∧G w w'
theorem HasNP.up {w W W':World} {c:Array Value} {n0:ByteArray} {v:Vd} {m:Md} {ks:F} (h:HasNP W (NewC w W) c n0 v m ks) (hg:G W W'):HasNP W' (NewC w W') c n0 v m ks:=by
 obtain ⟨kv,e,hs⟩:=h
 refine ⟨kv,e,hs.keep fun b hb=>?_⟩
 obtain ⟨h8,o,ho,hoc⟩:=hb
 have e:=Below.block hg b (Array.getElem?_eq_some_iff.1 ho).1
 exact ⟨e,h8,o,e.trans ho,hoc⟩
theorem grow80_any:∀ (Z:Nat) (ks:F),ks.size<Z→GrowOk ks:=by
 intro Z
 induction Z with
 | zero=>intro f h;omega
 | succ Z ih=>
  intro ks hZ n0 v m M O k R ao cp w hE hn hp hd hM hg hr hR hlen
  obtain ⟨n,hn'⟩:∃ n,O.length=n:=⟨_,rfl⟩
  obtain ⟨N,hN⟩:∃ N,ks.len=N:=⟨_,rfl⟩
  have hx:=head_of_drop hd
  have hkn:k<n:=by rw [← hn'];exact (List.getElem?_eq_some_iff.1 hx).1
  rw [hn'] at hE hn ⊢
  obtain ⟨g,rfl,l0⟩:=hE.at hx
  obtain ⟨B,hB⟩:∃ B,w.heap.size=B:=⟨_,rfl⟩
  obtain ⟨P,hP⟩:∃ P,pth M=P:=⟨_,rfl⟩
  obtain ⟨X,hX⟩:∃ X,X=(vx v).toArray:=⟨_,rfl⟩
  obtain ⟨Y,hY⟩:∃ Y,Y=(mx m).toArray:=⟨_,rfl⟩
  obtain ⟨C,hC⟩:∃ C,nc n0 v m (.slice none 0 0)=C:=⟨_,rfl⟩
  obtain ⟨w0,hw0⟩:∃ w0,w.alloc (.cells z30 30)=w0:=⟨_,rfl⟩
  have g0:G w w0:=by rw [← hw0];exact G.alloc _ _
  have s0:w0.heap.size=B+1:=by rw [← hw0,World.size_alloc,hB]
  have v0:Var w0 B z30:=by rw [← hw0,← hB];exact heap_alloc_new _ _
  obtain ⟨w1,hw1⟩:∃ w1,w0.drew.alloc (.cells z30 30)=w1:=⟨_,rfl⟩
  have sd:w0.drew.heap.size=B+1:=s0
  have g1:G w0 w1:=by rw [← hw1];exact (G.drew w0).trans (G.alloc _ _)
  have v1:Var w1 (B+1) z30:=by rw [← hw1,← sd];exact heap_alloc_new _ _
  obtain ⟨w2,hw2⟩:∃ w2,w1.setRow (B+1) C=w2:=⟨_,rfl⟩
  have v2:Var w2 (B+1) C:=by rw [← hw2];exact setRow_heap _ _ z30 C 30 _ v1
  have g2:G w0 w2:=by
   rw [← hw2]
   exact ⟨g1.os,g1.tape,g1.output,by have:=g1.size;simpa using this,fun b hb=>(setRow_other _ _ _ _ (by omega)).trans (g1.block b hb)⟩
  have sC:C.size=41:=by rw [← hC];exact jZ ..
  have oC:C.all (·.oneCell')=true:=by rw [← hC];exact nc_one _ _ _ _ rfl
  have lX:Lies w0 g (k*40+1) X:=by rw [hX];exact (ec_lies_val l0).below g0
  have lY:Lies w0 g (k*40+36) Y:=by rw [hY];exact (ec_lies_marks l0).below g0
  have sX:X.size=35:=by rw [hX];simp [jQ]
  have sY:Y.size=4:=by rw [hY];simp [ji]
  have hI0:GNI w B n0 v m .nil 0 w2:=GNI.start (g0.trans g2) (v0.grow g2) (by rw [hC];exact v2)
  have c2:w2.cell? ⟨g,k*40,none⟩=some (.string P):=by rw [← hP];exact (lies_path l0 ▸ (G.cell (g0.trans g2) (lies_path l0)))
  have HF:=hid (And.intro hE (And.intro hn' (And.intro hp (And.intro hM (And.intro hg (And.intro hr (And.intro hP hN)))))))
  have HRH:Hid (∀ e R',R=e::R'→M≠[]∧∃ N,goodM N∧e.p=pth N∧¬ M <+: N):=hR
  have HIH:=hid ih
  have HZ:=hid hZ
  have HD0:Hid (O.drop (k+1)=flatK (pth M) ks++R):=by
   have:=drop_next (A:=[⟨pth M,v,m⟩]) (B:=flatK (pth M) ks++R) (by rw [hd];rfl)
   exact this
  have HPS:Hid (P.size≤1048576):=by rw [← hP];exact hp _ (List.mem_of_getElem? hx)
  have HLN:Hid (N≤100000):=by rw [← hN];exact hlen
  have HI0:=hid hI0
  have HB:=hid hB
  have i1:(k:Int)<(n:Int):=by omega
  have i2:(0:Int)≤(k:Int):=by omega
  have HX:Hid (X=(vx v).toArray∧Y=(mx m).toArray∧nc n0 v m (.slice none 0 0)=C∧X.size=35∧Y.size=4∧C.size=41∧C.all (·.oneCell')=true):=⟨hX,hY,hC,sX,sY,sC,oC⟩
  have HL:Hid (Lies w0 g (k*40+1) X∧Lies w0 g (k*40+36) Y):=⟨lX,lY⟩
  have HW:Hid (w.alloc (.cells z30 30)=w0∧w0.drew.heap.size=B+1∧w0.drew.alloc (.cells z30 30)=w1∧w1.setRow (B+1) C=w2∧Var w1 (B+1) z30∧G w0 w1∧G w0 w2):=⟨hw0,sd,hw1,hw2,v1,g1,g2⟩
  clear hE hn' hp hM hg hr hR ih hZ hd hI0 hX hY hC sX sY sC oC lX lY hw0 sd hw1 hw2 v1 g1 g2 v0 v2 s0 g0 l0 hx hP hN hlen
  go_enter Tryz.func80,Tryz.ntmps80
  go_upto_region 1 with ((with_reducible refine jJ (.pointer (some ⟨B,0,none⟩)) w0 ?_ ?_ ?_);(rw [← HW.out.1];exact jf rfl _ B HB.out);kernel_rfl)
  refine regGR g n cp k (B+1) n0 X Y C w1 w2 v m _ w0 rfl rfl rfl rfl i1 i2 HL.out.1 HL.out.2 HX.out.2.2.2.1 HX.out.2.2.2.2.1 HX.out.1 HX.out.2.1 HX.out.2.2.1 HX.out.2.2.2.2.2.1 HX.out.2.2.2.2.2.2 HW.out.2.1 HW.out.2.2.1 HW.out.2.2.2.1 HW.out.2.2.2.2.1 (G.drew w0) HW.out.2.2.2.2.2.1 HW.out.2.2.2.2.2.2 fun r=>?_
  rw [foldGR]
  clear HL HX
  go_simp
  go_wp2
  go_loopg [1] N (fun gh a wr=>∃ i pos:Nat,i≤N∧gh=N-i∧a=.int .i64 (pos:Int)∧Hid (pos=k+1+(ks.take i).size)∧Hid (O.drop pos=flatK (pth M) (ks.drop i)++R)∧Hid (GNI w B n0 v m (ks.take i) i wr))
  case atStart=>exact ⟨0,k+1,Nat.zero_le _,rfl,by go_num,by show _=_;rw [F.take_zero];rfl,by show _=_;rw [F.drop_zero];exact HD0.out,by rw [F.take_zero];exact HI0.out⟩
  case round=>
   obtain ⟨i,pos,hi,rfl,rfl,HP,HD,HI⟩:=hrel
   have hM:=HF.out.2.2.2.1
   have hnO:=HF.out.2.1
   have hPM:=HF.out.2.2.2.2.2.2.1
   have hNk:=HF.out.2.2.2.2.2.2.2
   by_cases hlt:i<N
   ·obtain ⟨nm,v',m',k',hd1⟩:=F.drop_more ks i (by rw [hNk];exact hlt)
    obtain ⟨hr1,hg1⟩:=rises_drop i HF.out.2.2.2.2.2.1 HF.out.2.2.2.2.1
    rw [hd1] at hr1 hg1
    obtain ⟨hab,hrk,hrr⟩:(ks.drop (i+1)).above nm∧k'.rises∧(ks.drop (i+1)).rises:=by simpa [F.rises] using hr1
    have hMn:goodM (M++[nm]):=goodM.snoc hM hg1.1
    obtain ⟨R2,hR2⟩:∃ R2,flatK (pth M) (ks.drop (i+1))++R=R2:=⟨_,rfl⟩
    have hd2:O.drop pos=(⟨pth (M++[nm]),v',m'⟩::flatK (pth (M++[nm])) k')++R2:=by
     rw [HD.out,hd1,flatK,belowS_pth hM,← hR2,List.append_assoc]
    have hx:=head_of_drop hd2
    have hpn:pos<n:=by rw [← hnO];exact (List.getElem?_eq_some_iff.1 hx).1
    have hgw:G w wr:=by obtain ⟨_,_,_,q,_⟩:=HI.out;exact q
    obtain ⟨g',e',la⟩:=(HF.out.1.below hgw).at hx
    cases e'
    obtain ⟨Q,hQ⟩:∃ Q,pth (M++[nm])=Q:=⟨_,rfl⟩
    have ck:wr.cell? ⟨g,pos*40,none⟩=some (.string Q):=by rw [← hQ];exact lies_path la
    have HSQ:Hid (Q.size≤1048576):=by rw [← hQ];exact HF.out.2.2.1 _ (List.mem_of_getElem? hx)
    have hR3:∀ e R',R2=e::R'→M++[nm]≠[]∧∃ N,goodM N∧e.p=pth N∧¬ (M++[nm]) <+: N:=fun e R' q=>by
     refine ⟨by simp,?_⟩
     rw [← hR2] at q
     cases hdr:ks.drop (i+1) with
     | nil=>
      rw [hdr] at q
      obtain ⟨_,N',q1,q2,q3⟩:=HRH.out e R' q
      exact ⟨N',q1,q2,fun q4=>q3 ((List.prefix_append M [nm]).trans q4)⟩
     | cons nm2 v2 m2 k2 r2=>
      rw [hdr] at q hab hg1
      rw [flatK,belowS_pth hM] at q
      simp only [List.cons_append] at q
      injection q with q1 _
      refine ⟨M++[nm2],goodM.snoc hM hg1.2.2.1,by rw [← q1],fun q4=>?_⟩
      have hq5:=List.prefix_append_right_inj M |>.1 q4
      have:nm=nm2:=by simpa using hq5
      exact (lt_no hab.1).2 this
    have hkz:k'.size<Z:=by
     have h1:=F.drop_size ks i
     rw [hd1,F.size] at h1
     have:=HZ.out
     omega
    have hkl:k'.len≤100000:=by
     have h1:=k'.len_le_size
     have h2:=congrArg List.length hd2
     rw [List.length_drop,List.length_append,List.length_cons,qN,hnO] at h2
     omega
    have HKID:Hid (∀ W,G w W→Calls Tryz.prog 80 #[.slice (some ⟨g,0,none⟩) n cp,.int .i64 (pos:Int),.string nm] W fun e w'=>∃ c,e=.returned (.tuple #[.agg c,.int .i64 ((pos+1+k'.size:Nat):Int)])∧HasNP w' (NewC W w') c nm v' m' k'∧G W w'):=fun W hW=>by
     have:=HIH.out k' hkz nm v' m' (M++[nm]) O pos R2 (some ⟨g,0,none⟩) cp W (by rw [hnO];exact HF.out.1.below hW) (by rw [hnO];exact hn) HF.out.2.2.1 hd2 hMn hg1.2.1 hrk hR3 hkl
     rw [hnO] at this
     exact this
    have HLAST:Hid (∀ u vv:ByteArray,AboveR (tl Q) (tl u) (tl vv)→vv=nm):=fun u vv q=>by
     have hpc:pieces (tl Q)=M.map tl++[tl nm]:=by
      rw [← hQ]
      show pieces (tl (ofB (joinL ((M++[nm]).map tl))))=_
      rw [qF,qA (good_map hMn),List.map_append]
      rfl
     exact tl_inj ((above_is q).2 _ _ hpc)
    have HUN:Hid (M≠[]→underB (tl Q) (tl P)=true):=fun _=>by
     rw [← hQ,← hPM]
     exact (under_pth hM hMn).2 (List.prefix_append ..)
    have HNEXT:Hid (ks.take (i+1)=(ks.take i).app (.cons nm v' m' k' .nil)∧O.drop (pos+1+k'.size)=flatK (pth M) (ks.drop (i+1))++R∧k+1+(ks.take (i+1)).size=pos+1+k'.size):=by
     have h1:=take_snoc ks i hd1
     refine ⟨h1,?_,?_⟩
     ·have:=drop_next hd2
      rw [List.length_cons,qN] at this
      rw [hR2,← this]
      congr 1
      omega
     ·rw [h1,F.app_size,HP.out]
      simp only [F.size]
      omega
    have i1:(pos:Int)<(n:Int):=by omega
    have i2:(0:Int)≤(pos:Int):=by omega
    clear hd1 hr1 hg1 hab hrk hrr hMn hR2 hd2 hx la hQ hR3 hkz hkl HD HP
    have hsQ:=HSQ.out
    by_cases hM0:M=[]
    case' pos=>
     have hP0:P=⟨#[]⟩:=by rw [← hPM,hM0];rfl
     have ck3:=ck
     have HI1:=HI
     subst hP0
     go_upto_region 5 with fail
     clear ck HI hM0
     generalize wr=w3 at *
    case' neg=>
     have hP0:P≠⟨#[]⟩:=fun q=>hM0 (pth_nil hM (by rw [hPM];exact q))
     have hb:=isEmpty_no hP0
     have CU:=refUnder_any Q P wr hsQ HPS.out
     rw [HUN.out hM0] at CU
     go_upto_region 5 with (go_at_call 111;refine CU.mono ?_;rintro e w3 ⟨rfl,g3⟩;have ck3:=G.cell g3 ck;have HI1:=hid (HI.out.up g3);clear g3 CU)
     clear ck HI hM0 hP0 hb
    all_goals
     have CA:=refAbove_any Q w3 hsQ
     go_upto_region 6 with (go_at_call 79;refine CA.mono ?_;rintro e w4 ⟨⟨u4,v4,rfl,hab⟩,g4⟩;obtain rfl:=HLAST.out _ _ hab;have HI2:=hid (HI1.out.up g4);clear hab g4 CA)
     clear ck3 HI1
     obtain ⟨u,xs,T,h1,h2,h3,h4,h6,h7⟩:=HI2.out
     obtain ⟨ao,uc,hu⟩:=owns_form h4
     have CK:=HKID.out w4 h1
     have HU:=hid (And.intro h1 (And.intro h2 (And.intro h3 (And.intro h4 (And.intro h6 (And.intro h7 hu))))))
     clear h1 h2 h3 h4 h6 h7 hu HI2
     go_upto_region 7 with (first
      | (go_at_call 80;refine CK.mono ?_;rintro e w5 ⟨c5,rfl,hk5,g5⟩;obtain ⟨kv,rfl,hs5⟩:=hk5;have ho5:kv.oneCell'=true:=(by obtain ⟨_,_,rfl,_⟩:=hs5;rfl);obtain ⟨c6,hc6⟩:∃ c6,nc v4 v' m' kv=c6:=⟨_,rfl⟩;rw [hc6];obtain ⟨D5,hD5⟩:∃ D,w5.heap.size=D:=⟨_,rfl⟩;obtain ⟨n1,n2,n3⟩:=new_var w5 c6;obtain ⟨w6,hw6⟩:∃ w6,(w5.alloc (.cells z30 30)).setRow D5 c6=w6:=⟨_,rfl⟩;rw [hD5,hw6] at n1 n2 n3;have H5:=hid (And.intro hs5 (And.intro g5 (And.intro hc6 (And.intro hD5 (And.intro hw6 (And.intro n1 (And.intro n2 (And.intro n3 ho5))))))));clear hs5 g5 hc6 hD5 hw6 n1 n2 n3 ho5 CK)
      | ((with_reducible refine jJ (.pointer (some ⟨D5,0,none⟩)) (w5.alloc (.cells z30 30)) ?_ ?_ ?_);exact jf rfl _ D5 H5.out.2.2.2.1;kernel_rfl)
      | ((with_reducible refine jP w6 ?_ ?_ ?_);(rw [← H5.out.2.2.2.2.1];exact jX _ _ rfl D5 c6 z30 rfl rfl _ (by rw [← H5.out.2.2.2.1];exact Var.new _ z30) (by rw [← H5.out.2.2.1];exact jZ ..) jU (by rw [← H5.out.2.2.1];exact nc_one _ _ _ _ H5.out.2.2.2.2.2.2.2.2));kernel_rfl))
     obtain ⟨h1,h2,h3,h4,h6,h7,hu⟩:=HU.out
     have g46:G w4 w6:=H5.out.2.1.trans H5.out.2.2.2.2.2.1
     obtain ⟨E6,hE6⟩:∃ E,w6.heap.size=E:=⟨_,rfl⟩
     obtain ⟨w7,hw7⟩:∃ w7,w6.alloc (.cells c6 30)=w7:=⟨_,rfl⟩
     have g67:G w6 w7:=by rw [← hw7];exact G.alloc _ _
     have s6:c6.size=41:=by rw [← H5.out.2.2.1];exact jZ ..
     have o6:c6.all (·.oneCell')=true:=by rw [← H5.out.2.2.1];exact nc_one _ _ _ _ H5.out.2.2.2.2.2.2.2.2
     have v7:Var w7 E6 c6:=by rw [← hw7,← hE6];exact Var.new _ _
     have g47:=g46.trans g67
     have hsz:B+2≤w7.heap.size:=by have:=(h3.grow g47).lt;omega
     obtain ⟨g2,cap2,w8,hr8,own8,gr8,at8⟩:=app30_run (World.ownsRow.kept h4 (Ch.grown_of g47) (by cases hv:u.ownBlock<;>simp)) v7 s6 o6 (by have:=HLN.out;omega) hsz
     have hub:∀ b,u.ownBlock=some b→B+2≤b:=fun b q=>(World.ownsRow.lt h4 b q).1
     have v8:Var w8 (B+1) (nc n0 v m u):=(gr8.block (B+1) (h3.grow g47).lt (fun q=>by have:=hub _ q.symm;omega)).trans (h3.grow g47)
     obtain ⟨w9,hw9⟩:∃ w9,w8.setCell ⟨B+1,40,none⟩ (.slice (some ⟨g2,0,none⟩) (i+1) cap2)=w9:=⟨_,rfl⟩
     have HLF:=GLeft.mk' v8 own8
     rw [hw9,← H5.out.2.2.1] at HLF
     have hs7:HasSP w7 (NewC w4 w7) kv k':=by
      have q:=HasNP.up (n0:=v4) (v:=v') (m:=m') ⟨kv,rfl,H5.out.1⟩ (H5.out.2.2.2.2.2.1.trans g67)
      obtain ⟨kv2,q1,q2⟩:=q
      have q3:=congrArg (fun a=>a[40]?) q1
      simp only [qB] at q3
      injection q3 with q3
      rw [q3]
      exact q2
     obtain ⟨bel9,gni9⟩:=GNI.step HB.out h1 h2 h3 h4 h6 h7 g47 hs7 gr8 at8 HLF
     have cu6:w6.cell? ⟨B+1,40,none⟩=some u:=jG (h3.grow g46).lies 40 u (qB ..)
     have cu8:w8.cell? ⟨B+1,40,none⟩=some u:=jG v8.lies 40 u (qB ..)
     have fz8:w8.frozen? ⟨B+1,40,none⟩=false:=by
      have v8':w8.heap[B+1]?=some (.cells (nc n0 v m u) 30 (0,0)):=v8
      simp [World.frozen?,v8']
     have HV6:=hid (And.intro H5.out.2.2.2.2.2.2.1 (And.intro s6 o6))
     have H9:=hid (And.intro bel9 (And.intro gni9 (And.intro hr8 (And.intro hE6 (And.intro hw7 hw9)))))
     rw [hu] at cu6 cu8
     have HU8:=hid hu
     clear h1 h2 h3 h4 h6 h7 hu g46 hE6 hw7 g67 s6 o6 v7 g47 hsz hr8 own8 gr8 at8 hub v8 hw9 HLF hs7 bel9 gni9 HU H5
     go_upto_region 8 with (first
      | ((with_reducible refine jA (.agg c6) ?_ ?_ ?_);exact jH _ rfl D5 0 rfl c6 HV6.out.2.1 HV6.out.1.lies;kernel_rfl)
      | ((with_reducible refine jJ (.slice (some ⟨E6,0,none⟩) 1 1) w7 ?_ ?_ ?_);(rw [← H9.out.2.2.2.2.1];exact js _ rfl c6 rfl HV6.out.2.1 _ E6 H9.out.2.2.2.1);kernel_rfl)
      | ((with_reducible refine jJ (.slice (some ⟨g2,0,none⟩) (i+1) cap2) w8 ?_ ?_ ?_);exact exec_app28 rfl rfl rfl rfl (by rw [← HU8.out];exact H9.out.2.2.1);kernel_rfl))
     rw [H9.out.2.2.2.2.2]
     go_wp2
     go_roundg (N-(i+1))
     case measure=>omega
     case rel=>exact ⟨i+1,pos+1+k'.size,by omega,rfl,by go_num,HNEXT.out.2.2.symm,HNEXT.out.2.1,by rw [HNEXT.out.1];exact H9.out.2.1⟩
   ·obtain rfl:i=N:=by omega
    have hdn:ks.drop i=.nil:=F.drop_all ks i (by rw [hNk];omega)
    have htk:ks.take i=ks:=F.take_all ks i (by rw [hNk];omega)
    have HR0:Hid (O.drop pos=R):=by show _=_;rw [HD.out,hdn];rfl
    rw [htk] at HP HI
    have hgw:G w wr:=by obtain ⟨_,_,_,q,_⟩:=HI.out;exact q
    obtain ⟨c,hv,hnp,_,hb0⟩:=GNI.done hNk HI.out
    have hcs:c.size=41:=by obtain ⟨_,rfl,_⟩:=hnp;exact jZ ..
    have hc1:c.all (·.oneCell')=true:=by obtain ⟨_,rfl,_,_,rfl,_⟩:=hnp;exact nc_one _ _ _ _ rfl
    have HN9:=hid (And.intro hv (And.intro hnp (And.intro hgw (And.intro hb0 (And.intro hcs hc1)))))
    clear hdn htk HD HI hv hnp hb0 hcs hc1
    cases hRc:R with
    | nil=>
     have hl:n≤pos:=by
      have:=HR0.out
      rw [hRc] at this
      have h2:=congrArg List.length this
      rw [List.length_drop,hnO] at h2
      simp at h2
      omega
     have i1:¬ (pos:Int)<(n:Int):=by omega
     go_wp2_with (first
      | ((with_reducible refine jA (.agg c) ?_ ?_ ?_);exact jH _ rfl (B+1) 0 rfl c HN9.out.2.2.2.2.1 HN9.out.1.lies;kernel_rfl)
      | ((with_reducible refine jP (wr.setRow B c) ?_ ?_ ?_);exact jX _ _ rfl B c z30 rfl rfl _ HN9.out.2.2.2.1 HN9.out.2.2.2.2.1 jU HN9.out.2.2.2.2.2;kernel_rfl))
     obtain ⟨hv,hnp,hgw,hb0,hcs,hc1⟩:=HN9.out
     refine bodyPost_ret (ju (p:=6) (u:=7) rfl _ _ B c rfl hb0.set hcs) rfl ⟨c,?_,?_,?_⟩
     ·have hpe:pos=k+1+ks.size:=HP.out
      have hpi:(k:Int)+1+(ks.size:Int)=(pos:Int):=by omega
      first
       | (rw [hpi];rfl)
       | (rw [← hpe];rfl)
     ·obtain ⟨kv,q1,q2⟩:=hnp
      exact ⟨kv,q1,q2.keep fun b hb=>⟨setRow_other _ _ _ _ (by omega),by have:=HB.out;omega,by obtain ⟨_,o,ho,hoc⟩:=hb;exact ⟨o,(setRow_other _ _ _ _ (by omega)).trans ho,hoc⟩⟩⟩
     ·exact ⟨hgw.os,hgw.tape,hgw.output,by have:=hgw.size;simpa using this,fun b hb=>(setRow_other _ _ _ _ (by have:=HB.out;omega)).trans (hgw.block b hb)⟩
    | cons e R'=>
     obtain ⟨hM0,N',q1,q2,q3⟩:=HRH.out e R' hRc
     have hx:O[pos]?=some e:=head_of_drop (by rw [HR0.out,hRc])
     have hpn:pos<n:=by rw [← hnO];exact (List.getElem?_eq_some_iff.1 hx).1
     obtain ⟨g',e',la⟩:=(HF.out.1.below hgw).at hx
     cases e'
     obtain ⟨Q,hQ⟩:∃ Q,e.p=Q:=⟨_,rfl⟩
     have ck:=lies_path la
     rw [hQ] at ck
     have hsQ:Q.size≤1048576:=by rw [← hQ];exact HF.out.2.2.1 _ (List.mem_of_getElem? hx)
     have CU:=refUnder_any Q P wr hsQ HPS.out
     have hun:underB (tl Q) (tl P)=false:=by
      rw [← hQ,q2,← hPM]
      cases hb:underB (tl (pth N')) (tl (pth M)) with
      | false=>rfl
      | true=>exact absurd ((under_pth hM q1).1 hb) q3
     rw [hun] at CU
     have hP0:P≠⟨#[]⟩:=fun q=>hM0 (pth_nil hM (by rw [hPM];exact q))
     have hb:=isEmpty_no hP0
     have i1:(pos:Int)<(n:Int):=by omega
     have i2:(0:Int)≤(pos:Int):=by omega
     clear hun hP0 la hx q1 q2 q3 hQ hRc hM0
     go_wp2_with (first
      | (go_at_call 111;refine CU.mono ?_;rintro e w3 ⟨rfl,g3⟩;have HN10:=hid (And.intro (HN9.out.1.grow g3) (And.intro g3 (HN9.out.2.2.2.1.grow g3)));clear g3 CU)
      | ((with_reducible refine jA (.agg c) ?_ ?_ ?_);exact jH _ rfl (B+1) 0 rfl c HN9.out.2.2.2.2.1 HN10.out.1.lies;kernel_rfl)
      | ((with_reducible refine jP (w3.setRow B c) ?_ ?_ ?_);exact jX _ _ rfl B c z30 rfl rfl _ HN10.out.2.2 HN9.out.2.2.2.2.1 jU HN9.out.2.2.2.2.2;kernel_rfl))
     obtain ⟨hv,hnp,hgw,_,hcs,hc1⟩:=HN9.out
     obtain ⟨_,g3,hb0⟩:=HN10.out
     refine bodyPost_ret (ju (p:=6) (u:=7) rfl _ _ B c rfl hb0.set hcs) rfl ⟨c,?_,?_,?_⟩
     ·have hpe:pos=k+1+ks.size:=HP.out
      have hpi:(k:Int)+1+(ks.size:Int)=(pos:Int):=by omega
      first
       | (rw [hpi];rfl)
       | (rw [← hpe];rfl)
     ·obtain ⟨kv,q1,q2⟩:=hnp
      refine ⟨kv,q1,q2.keep fun b hb=>?_⟩
      obtain ⟨h8,o,ho,hoc⟩:=hb
      have e3:=Below.block g3 b (Array.getElem?_eq_some_iff.1 ho).1
      have e4:(w3.setRow B c).heap[b]?=wr.heap[b]?:=(setRow_other _ _ _ _ (by omega)).trans e3
      exact ⟨e4,by have:=HB.out;omega,o,e4.trans ho,hoc⟩
     ·have g4:=hgw.trans g3
      exact ⟨g4.os,g4.tape,g4.output,by have:=g4.size;simpa using this,fun b hb=>(setRow_other _ _ _ _ (by have:=HB.out;omega)).trans (g4.block b hb)⟩
end Go.Proofs.YthfcanpkhjgomaaGreat
