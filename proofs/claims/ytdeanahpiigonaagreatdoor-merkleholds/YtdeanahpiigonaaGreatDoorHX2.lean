import Derived.Test.YtdeanahpiigonaaGreatDoorHX1
import Derived.Test.YtdeanahpiigonaaGreatDoorHR1
set_option maxRecDepth 100000
set_option maxHeartbeats 8000000
namespace Go.Proofs.YtdeanahpiigonaaGreatDoor
open Go.RowKit Hm
attribute [local go_sem] Oper.semAt_some
theorem mN (w:World) (b:Nat) (c:Array Value):Kp (fun x=>x=b) w (w.setRow b c):=⟨rfl,rfl,rfl,by simp,fun b' _ hn=>setRow_other _ b b' _ hn⟩
theorem G.setRow {W w:World} (h:G W w) {b:Nat} (c:Array Value) (hb:W.heap.size≤b):G W (w.setRow b c):=((Kp.of (S:=fun b=>W.heap.size≤b) h).trans (mN w b c) fun b' _ e=>by rw [e];exact hb).below (Nat.le_refl _) fun b e=>e
theorem gD (bt:Int) (ub:Value) (t:List Nat) (w:World) (lo:Nat) (hu:Su.Owns w lo ub t) (hB:Su.Bytes t) (hl:t.length≤100000) (count place:Nat) (hc:count≤1048576) (hp:place<count) (sv:Value) (sib:List (List Nat)) (hsv:HsL 32 w sv (sib.map hA)) (hsb:∀ y∈sib,y.length=32∧Su.Bytes y) (hh:sib.length=hgt count place):
  Calls Tryz.prog 21 #[.agg #[.int .i64 bt],ub,.int .i64 (count:Int),.int .i64 (place:Int),sv] w fun e w'=>∃ v T,e=.returned v∧Tx w' w.heap.size v T 22∧G w w'∧sumS bt T=yQ (sumS bt) (sumS bt t) count place sib.reverse∧Su.Bytes T∧T.length≤100000:=by
 have hS:=zN bt
 have CO:Hid (∀ W u T,Su.Has W u T→Su.Bytes T→T.length≤100000→Calls Tryz.prog 7 #[.agg #[.int .i64 bt],u] W fun e W'=>e=.returned (.agg (hA (sumS bt T)))∧G W W'):=fun W u T h1 h2 h3=>bp bt u T W h1 h2 h3
 have hle:=xz 20 count place (by simpa using hc)
 obtain ⟨rl,rr⟩:=xl (sumS bt) t count count place (Nat.le_refl _)
 have rr:=rr sib.reverse (by rw [List.length_reverse];exact hh)
 generalize sumS bt=S at *
 rw [← rr]
 have hUL:=hid (mM hS ⟨hB,hl⟩ _ (ui (left:=kj count place) hsb 0))
 rw [List.drop_zero] at hUL
 have HZ:Hid (∀ d,Su.Bytes (updn S t (((kj count place).zip sib.reverse).drop d))∧(updn S t (((kj count place).zip sib.reverse).drop d)).length≤100000):=fun d=>mM hS ⟨hB,hl⟩ _ (ui hsb d)
 have HST:Hid (∀ k,k<sib.length→updn S t (((kj count place).zip sib.reverse).drop (sib.length-(k+1)))=if (kj count place).getD (sib.length-1-k) false=true then jw (S (updn S t (((kj count place).zip sib.reverse).drop (sib.length-k)))) (sib.getD k []) else jw (sib.getD k []) (S (updn S t (((kj count place).zip sib.reverse).drop (sib.length-k))))):=fun k hk=>mL S t _ sib sib.length k (by rw [rl,hh]) rfl hk
 have HE:Hid (updn S t ((kj count place).zip sib.reverse)=updn S t (((kj count place).zip sib.reverse).drop (sib.length-sib.length))):=by rw [Nat.sub_self,List.drop_zero];exact rfl
 have HE0:Hid (t=updn S t (((kj count place).zip sib.reverse).drop (sib.length-0))):=by
  show _=_
  rw [List.drop_of_length_le (by simp only [List.length_zip,List.length_reverse];omega),updn]
 obtain ⟨LL,hLL⟩:∃ LL,kj count place=LL:=⟨_,rfl⟩
 have HLL:=hid hLL
 have hLn:LL.length=sib.length:=by rw [← hLL,rl,hh]
 rw [hLL] at hUL HZ HST HE HE0 ⊢
 obtain ⟨ao,ac,rfl⟩:=jo hu
 obtain ⟨sa,sc,hse⟩:=hsv.form
 rw [List.length_map] at hse
 subst hse
 have HU:=hid hu
 have HSV:=hid hsv
 have hn20:sib.length≤20:=by omega
 clear hu hsv rr rl hh hLL
 go_enter Tryz.func21,Tryz.ntmps21
 go_wp2_with (first
  | ((with_reducible refine jt 5 27 (.tmp 0) (#[.int .i64 bt]:Array Value) ?_ ?_ ?_ ?_ ?_);rfl;rfl;kernel_rfl;rfl;intro w1 b1 H1))
 have HI0:Hid (UpI w b1 bt (.slice none 0 0) [] w1):=(by obtain ⟨p1,p2,p3,p4⟩:=H1.o;exact ⟨p3,OwL.nil _ _ _ _,p2⟩)
 clear H1
 go_loopw [2,3,11] (fun a b v wr=>∃ c' p':Nat,∃ L x n cp,a=.int .i64 (c':Int)∧b=.int .i64 (p':Int)∧v=.slice x n cp∧c'≤1048576∧p'≤1048576∧Hid (UpI w b1 bt v L wr∧L++kj c' p'=LL)) (fun a _ _ _=>iOf a)
 case atStart=>exact ⟨count,place,[],none,0,0,rfl,rfl,rfl,hc,by omega,HI0.o,HLL.o⟩
 case round=>
  clear HI0
  obtain ⟨c',p',L,x,n,cp,rfl,rfl,rfl,hc',hp',HK⟩:=hrel
  by_cases h2:2≤c'
  ·have h2I:(1:Int)<c':=by omega
   have hl':=zQ h2
   have C:=zw c' h2 (by omega) wr
   have hL1:L.length≤20:=by have:=congrArg List.length HK.o.2;simp at this;omega
   by_cases hlt:p'<jl c'
   ·have HK2:Hid ((L++[true])++kj (jl c') p'=LL):=hid (by have:=HK.o.2;rw [gB h2 hlt] at this;simpa using this)
    obtain ⟨m,hm⟩:∃ m,jl c'=m:=⟨_,rfl⟩
    rw [hm] at C HK2 hl' hlt
    clear hm
    have hltI:(p':Int)<m:=by omega
    obtain ⟨v',w',a1,a2⟩:=HK.o.1.app true (by omega) _ rfl
    obtain ⟨va,vc,hve⟩:=a2.form
    rw [show (L++[true]).length=L.length+1 from by simp] at hve
    have HA:=hid a1
    have HB:=hid a2
    clear a1 a2 HK
    go_wp2_with (first
     | (go_at_call 54;refine C.mono ?_;rintro e w2 ⟨rfl,rfl⟩)
     | ((with_reducible refine jT 24 (.slice (some ⟨w2.heap.size,0,none⟩) 1 1) (w2.alloc (.cells #[.bool true] 4)) ?_ ?_ ?_ ?_);rfl;kernel_rfl;exact jf ek97 _ rfl (.bool true) #[.bool true] rfl rfl rfl _ _ rfl)
     | ((with_reducible refine jT 25 v' w' ?_ ?_ ?_ ?_);rfl;kernel_rfl;exact qc rfl rfl rfl HA.o;subst hve))
    go_roundw
    case rel=>exact ⟨m,p',L++[true],_,_,_,rfl,rfl,rfl,by omega,hp',HB.o,HK2.o⟩
    case measure=>simp;omega
   ·have HK2:Hid ((L++[false])++kj (c'-jl c') (p'-jl c')=LL):=hid (by have:=HK.o.2;rw [gC h2 hlt] at this;simpa using this)
    obtain ⟨m,hm⟩:∃ m,jl c'=m:=⟨_,rfl⟩
    rw [hm] at C HK2 hl' hlt
    clear hm
    have hltI:¬ (p':Int)<m:=by omega
    have hs1:(c':Int)-m=((c'-m:Nat):Int):=by omega
    have hs2:(p':Int)-m=((p'-m:Nat):Int):=by omega
    have b1':c'-m≤1048576:=by omega
    have b2':p'-m≤1048576:=by omega
    have b3':c'-m<c':=by omega
    obtain ⟨c2,hc2⟩:∃ c2,c'-m=c2:=⟨_,rfl⟩
    obtain ⟨p2,hp2⟩:∃ p2,p'-m=p2:=⟨_,rfl⟩
    rw [hc2] at hs1 b1' b3' HK2
    rw [hp2] at hs2 b2' HK2
    clear hc2 hp2
    obtain ⟨v',w',a1,a2⟩:=HK.o.1.app false (by omega) _ rfl
    obtain ⟨va,vc,hve⟩:=a2.form
    rw [show (L++[false]).length=L.length+1 from by simp] at hve
    have HA:=hid a1
    have HB:=hid a2
    clear a1 a2 HK
    go_wp2_with (first
     | (go_at_call 54;refine C.mono ?_;rintro e w2 ⟨rfl,rfl⟩)
     | ((with_reducible refine jT 24 (.slice (some ⟨w2.heap.size,0,none⟩) 1 1) (w2.alloc (.cells #[.bool false] 4)) ?_ ?_ ?_ ?_);rfl;kernel_rfl;exact jf ek97 _ rfl (.bool false) #[.bool false] rfl rfl rfl _ _ rfl)
     | ((with_reducible refine jT 25 v' w' ?_ ?_ ?_ ?_);rfl;kernel_rfl;exact qc rfl rfl rfl HA.o;subst hve))
    go_roundw
    case rel=>exact ⟨c2,p2,L++[false],_,_,_,rfl,rfl,rfl,b1',b2',HB.o,HK2.o⟩
    case measure=>simp;omega
  ·have h2I:¬ (1:Int)<c':=by omega
   have hLe:L=LL:=by have:=HK.o.2;rw [aq h2,List.append_nil] at this;exact this
   subst hLe
   obtain ⟨la,lc,hle2⟩:=HK.o.1.form
   injection hle2 with q1 q2 q3
   subst q1 q2 q3
   have HQ0:Hid (UqI w b1 bt (.slice x L.length cp) L (.slice (some ⟨wr.heap.size,0,none⟩) 1 1) t 1 (wr.alloc (.cells #[.slice ao t.length ac] 25))):=by
    have hg:=HK.o.1.g
    have h0:Su.Owns wr 0 (.slice ao t.length ac) t:=(HU.o.below hg (Nat.le_refl _)).mono (Nat.zero_le _)
    have ha:=G.alloc wr (.cells #[.slice ao t.length ac] 25)
    exact ⟨⟨(ha.block b1 (ga HK.o.1.v1).1).trans HK.o.1.v1,HK.o.1.ow.up ha,hg.trans ha⟩,Tx.one h0 _ rfl hg.size⟩
   clear HK
   go_wp2_with ((with_reducible refine jT 37 (.slice (some ⟨wr.heap.size,0,none⟩) 1 1) (wr.alloc (.cells #[.slice ao t.length ac] 25)) ?_ ?_ ?_ ?_);rfl;kernel_rfl;exact jf ek31 _ rfl (.slice ao t.length ac) #[.slice ao t.length ac] rfl rfl rfl _ _ rfl)
   generalize wr.alloc (.cells #[.slice ao t.length ac] 25)=w3 at *
   rw [HE0.o] at HQ0
   go_loopw [13,14] (fun v i wr=>∃ k:Nat,i=.int .i64 (k:Int)∧k≤sib.length∧∃ y m q,v=.slice y m q∧Hid (UqI w b1 bt (.slice x L.length cp) L v (updn S t ((L.zip sib.reverse).drop (sib.length-k))) (k+1) wr)) (fun _ i _=>sib.length-iOf i)
   case atStart=>exact ⟨0,rfl,by omega,_,_,_,rfl,HQ0.o⟩
   case round=>
    clear HQ0 HE0
    obtain ⟨k,rfl,hk,y,m,q,rfl,HR⟩:=hrel
    by_cases hkn:k<sib.length
    ·skip
     have hkI:(k:Int)<sib.length:=by omega
     have hR:=HR.o
     have hst:=HST.o k hkn
     have hTB:=HZ.o (sib.length-k)
     obtain ⟨T,hT⟩:∃ T,updn S t ((L.zip sib.reverse).drop (sib.length-k))=T:=⟨_,rfl⟩
     rw [hT] at hR hst hTB
     obtain ⟨gl,cl,hle3,hleft⟩:=hR.u.at (by omega)
     injection hle3 with q1 q2 q3
     subst q1 q3
     obtain ⟨gs,os,cs,hse,hsib⟩:=a2P (HSV.o.up hR.u.g) (by omega)
     injection hse with q1 q2 q3
     subst q1 q3
     obtain ⟨g,m',c,a,kk,hve,hm',hcell,hown⟩:=hR.tx.last
     injection hve with q1 q2 q3
     subst q1 q2 q3
     have hYm:sib.getD k []∈sib:=by rw [List.getD_eq_getElem?_getD,List.getElem?_eq_getElem hkn];exact List.getElem_mem hkn
     have hY:=hsb _ hYm
     have hYl:=hsib k hkn
     generalize sib.getD k []=Y at hst hY hYl
     have hlf:=hleft (sib.length-1-k) (by omega)
     obtain ⟨bb,hbb⟩:∃ bb,L.getD (sib.length-1-k) false=bb:=⟨_,rfl⟩
     rw [hbb] at hst hlf
     obtain ⟨n1,hn1⟩:∃ n1,sib.length=n1+1:=⟨sib.length-1,by omega⟩
     obtain ⟨j,hj⟩:∃ j,n1=j+k:=⟨n1-k,by omega⟩
     have hj2:sib.length-1-k=j:=by omega
     rw [hj2] at hlf
     have hSX:=hS T
     have HX:Hid ((hA (S T)).size=32∧(hA (S T)).all (·.oneCell')=true):=⟨jG hSX.1,jn _⟩
     go_upto_region 13 with fail
     refine regu13 b1 g m' q (.slice a T.length kk) bt (hA (S T)) wr.heap.size (fun _ W'=>G wr W') (fun r' W'=>G wr W'∧r' 1=.agg (hA (S T))) (fun r' W'=>∃ b,r' 9=.pointer (some ⟨b,0,none⟩)∧wr.heap.size≤b∧W'.heap[b]?=some (.cells (hA (S T)) 22 (0,0))∧G wr W') (fun W'=>G wr W') _ wr rfl rfl rfl ⟨_,_,_,rfl⟩ (kF m' (by omega)) (by omega) (jG jC) HX.o (hb0:=fun _ _ q=>q) (hb1:=fun _ _ q=>q.1) (hk0:=fun _ _ q=>q.trans (G.alloc _ _)) (hk1:=?k1) (hlo:=fun _ q=>q.size) (hc1:=?c1) (hw2:=?c2) (hl0:=fun W' q=>Lies.of_heap ((q.block b1 (ga hR.u.v1).1).trans hR.u.v1)) (hl6:=fun W' q=>q.cell hcell) (hst0:=fun _=>G.drew _) (hQ:=?c3)
     case k1=>exact fun r' W' q=>⟨q.1.trans (G.alloc _ _),by rw [qr _ _ (by decide)];exact q.2⟩
     case c1=>
      intro r' W' q
      refine (CO.o W' _ T ((hown.has).below q) hTB.1 hTB.2).mono ?_
      rintro e W2 ⟨rfl,q2⟩
      exact ⟨_,rfl,⟨q.trans q2,by rw [jA]⟩,q2⟩
     case c2=>
      rintro r' W' b ⟨q,e1⟩ e2 e3 e4
      refine ⟨e1,b,e2,e4,setRow_heap _ _ _ _ _ _ e3,?_⟩
      exact q.setRow _ e4
     case c3=>
      rintro r' w5 ⟨b15,e1,e2,e3,e4⟩
      rw [foldu13,e1]
      generalize r' 1=u1
      have HQ:=hid (hR.up e4)
      have HX5:=hid e3
      have HYl:Hid (Lies w5 gs (os+k*32) (hA Y)):=e4.lies hYl
      have HSTt:=hid hst
      have hlf5:=e4.cell hlf
      have hs1:(sib.length:Int)-1=(n1:Int):=by omega
      have hs2:(n1:Int)-k=(j:Int):=by omega
      have hjb:j≤20:=by omega
      have hnb:n1≤20:=by omega
      have hjl:¬ sib.length≤j:=by omega
      have hjl2:¬ (sib.length:Int)≤j:=by omega
      have hkl:¬ sib.length≤k:=by omega
      clear hR hst hTB hleft hsib hcell hown hYl hlf hT HR e3 e4 e1 hn1 hj hj2 hbb
      cases bb with
      | true=>
       rw [if_pos rfl] at HSTt
       go_simp
       go_upto_region 15 with fail
       refine regu15 b15 gs os sib.length sc k (.slice (some ⟨g,0,none⟩) (m'+1) q) (hA (S T)) (hA Y) (fun _ W'=>G w5 W') (fun r' W'=>G w5 W'∧Su.Owns W' 0 (r' 1) (jw (S T) Y)) (fun r' W'=>∃ W1,G w5 W1∧Su.Owns W1 0 (r' 1) (jw (S T) Y)∧W'=W1.alloc (.cells #[r' 1] 25)∧r' 2=.slice (some ⟨W1.heap.size,0,none⟩) 1 1) (fun r' W'=>UqI w b1 bt (.slice (some ⟨gl,0,none⟩) L.length cp) L (r' 3) (jw (S T) Y) (k+1+1) W') (fun W'=>G w5 W') _ w5 rfl rfl rfl rfl rfl HX.o.1 (jG hY.1) hkl (hb0:=fun _ _ q=>q) (hc1:=?d1) (hs2:=?d2) (ha3:=?d3) (hl1:=fun W' q=>Lies.of_heap ((q.block b15 (ga HX5.o).1).trans HX5.o)) (hl5:=fun W' q=>q.lies HYl.o) (hst0:=fun _=>G.drew _) (hQ:=?d4)
       case d1=>
        intro r' W' q
        refine (ak (S T) Y W' hSX.1 hY.1).mono ?_
        rintro e W2 ⟨u,rfl,q1,q2⟩
        exact ⟨u,rfl,q.trans q2,by rw [jA];exact q1.mono (Nat.zero_le _)⟩
       case d2=>
        rintro r' W' ⟨q1,q2⟩
        obtain ⟨ua,uc,hue⟩:=jo q2
        have hce:(r' 1).cells=#[r' 1]:=by rw [hue];rfl
        rw [hce]
        refine ⟨rfl,W',q1,by rw [qr _ _ (by decide)];exact q2,by rw [qr _ _ (by decide)],by rw [jA]⟩
       case d3=>
        rintro r' W' ⟨W1,q1,q2,rfl,q3⟩
        rw [q3]
        obtain ⟨u,w6,a1,a2⟩:=(HQ.o.up q1).app q2 31 (by omega) _ rfl
        exact ⟨u,w6,a1,by rw [jA];exact a2⟩
       case d4=>
        intro r' w7 q7
        rw [foldu15]
        obtain ⟨ua,un,uc,hue⟩:=q7.tx.e.form
        generalize r' 3=u3 at q7 hue
        subst hue
        rw [← HSTt.o] at q7
        have HF:=hid q7
        clear q7
        generalize r' 1=u1'
        generalize r' 2=u2'
        go_simp
        go_wp2_with fail
        go_roundw
        case rel=>exact ⟨k+1,by go_num,by omega,_,_,_,rfl,HF.o⟩
        case measure=>simp;omega
      | false=>
       rw [if_neg (by simp)] at HSTt
       go_simp
       go_upto_region 16 with fail
       refine regu16 b15 gs os sib.length sc k (.slice (some ⟨g,0,none⟩) (m'+1) q) (hA (S T)) (hA Y) (fun _ W'=>G w5 W') (fun r' W'=>G w5 W'∧Su.Owns W' 0 (r' 1) (jw Y (S T))) (fun r' W'=>∃ W1,G w5 W1∧Su.Owns W1 0 (r' 1) (jw Y (S T))∧W'=W1.alloc (.cells #[r' 1] 25)∧r' 2=.slice (some ⟨W1.heap.size,0,none⟩) 1 1) (fun r' W'=>UqI w b1 bt (.slice (some ⟨gl,0,none⟩) L.length cp) L (r' 3) (jw Y (S T)) (k+1+1) W') (fun W'=>G w5 W') _ w5 rfl rfl rfl rfl rfl HX.o.1 (jG hY.1) hkl (hb0:=fun _ _ q=>q) (hc1:=?f1) (hs2:=?f2) (ha3:=?f3) (hl5:=fun W' q=>Lies.of_heap ((q.block b15 (ga HX5.o).1).trans HX5.o)) (hl4:=fun W' q=>q.lies HYl.o) (hst0:=fun _=>G.drew _) (hQ:=?f4)
       case f1=>
        intro r' W' q
        refine (ak Y (S T) W' hY.1 hSX.1).mono ?_
        rintro e W2 ⟨u,rfl,q1,q2⟩
        exact ⟨u,rfl,q.trans q2,by rw [jA];exact q1.mono (Nat.zero_le _)⟩
       case f2=>
        rintro r' W' ⟨q1,q2⟩
        obtain ⟨ua,uc,hue⟩:=jo q2
        have hce:(r' 1).cells=#[r' 1]:=by rw [hue];rfl
        rw [hce]
        refine ⟨rfl,W',q1,by rw [qr _ _ (by decide)];exact q2,by rw [qr _ _ (by decide)],by rw [jA]⟩
       case f3=>
        rintro r' W' ⟨W1,q1,q2,rfl,q3⟩
        rw [q3]
        obtain ⟨u,w6,a1,a2⟩:=(HQ.o.up q1).app q2 31 (by omega) _ rfl
        exact ⟨u,w6,a1,by rw [jA];exact a2⟩
       case f4=>
        intro r' w7 q7
        rw [foldu16]
        obtain ⟨ua,un,uc,hue⟩:=q7.tx.e.form
        generalize r' 3=u3 at q7 hue
        subst hue
        rw [← HSTt.o] at q7
        have HF:=hid q7
        clear q7
        generalize r' 1=u1'
        generalize r' 2=u2'
        go_simp
        go_wp2_with fail
        go_roundw
        case rel=>exact ⟨k+1,by go_num,by omega,_,_,_,rfl,HF.o⟩
        case measure=>simp;omega
    ·have hkI:¬ (k:Int)<sib.length:=by omega
     have hkn2:k=sib.length:=by omega
     subst hkn2
     have hkI2:¬ ((sib.length:Nat):Int)<sib.length:=by omega
     go_wp2_with fail
     go_ret
     refine ⟨_,rfl,updn S t (L.zip sib.reverse),?_,HR.o.u.g,rfl,hUL.o⟩
     rw [HE.o]
     exact HR.o.tx.le (by omega)
end Go.Proofs.YtdeanahpiigonaaGreatDoor
