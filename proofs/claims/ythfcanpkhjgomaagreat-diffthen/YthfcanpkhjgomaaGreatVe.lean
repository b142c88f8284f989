import Derived.Test.YthfcanpkhjgomaaGreatVt
set_option maxRecDepth 100000
set_option maxHeartbeats 4000000
namespace Go.Proofs.YthfcanpkhjgomaaGreat
open Go.RowKit Ch
theorem build30v (v:Vd) (w:World):(Instr.build 30 #[(1,.agg (vx v).toArray)]).run Tryz.prog w=.ok (.agg (nc ⟨#[]⟩ v Md.zero (.slice none 0 0))) w:=by
 refine run_build w 30 _ _ ?_
 have hz:∃ z:List Value,(Tryz.prog.info? 30).bind (·.zero)=some (.agg (List.toArray (.string ⟨#[]⟩::(z++(mx Md.zero++[.slice none 0 0])))))∧z.length=35:=⟨vx Vd.zero,by kernel_rfl,by kernel_rfl⟩
 obtain ⟨z,hz,hl⟩:=hz
 have hp:(Tryz.prog.fieldsOf 30).toList.mapM (fun f=>(Tryz.prog.info? f.type).map fun i=>(f.offset,i.size))=some [(0,1),(1,35),(36,4),(40,1)]:=by kernel_rfl
 have hu2:Tryz.prog.underlying 30=some (.struct (Tryz.prog.fieldsOf 30)):=by kernel_rfl
 unfold Program.built
 cases hi:Tryz.prog.info? 30 with
 | none=>rw [hi] at hz;cases hz
 | some it=>
  rw [hi] at hz
  simp only [Option.bind_some] at hz
  simp only [hu2,hz,hp]
  show Instr.fill _ (List.toArray _) _=_
  have hx:=vx_len v
  rw [fill_cons _ _ 1 1 35 _ (vx v) _ rfl rfl hx (by simp;omega),Instr.fill]
  simp only [over,nc,hx]
  refine congrArg some (congrArg List.toArray ?_)
  simp only [List.nil_append,List.cons_append,List.drop_succ_cons,List.take_succ_cons,List.take_zero,Nat.reduceAdd]
  rw [List.drop_append,hl,List.drop_of_length_le (by omega)]
  simp
theorem exec_build30v {o:Oper} {a:Act} (x:Operand) (ho:o.op=.build 30 #[(1,x)]) (v:Vd) (X:Array Value) (hX:X=(vx v).toArray) (hx:a.eval x=.agg X) (Z:Array Value) (hZ:nc ⟨#[]⟩ v Md.zero (.slice none 0 0)=Z) (w:World):
  (execOp a.eval o).run Tryz.prog w=.ok (.value (.agg Z)) w:=by
 subst hX hZ
 unfold execOp
 simp only [ho,List.map_toArray,List.map_cons,List.map_nil,hx]
 simp only [Sem.run_bind,build30v,Result.andThen_ok,Sem.run_pure]
theorem own_zero:Tryz.prog.built 24 []=some (vx Vd.zero).toArray:=by kernel_rfl
theorem own_zero27:Tryz.prog.built 27 []=some (mx Md.zero).toArray:=by kernel_rfl
def toN (c:Cd):Cn:=⟨cutN c.path,vcV c.old,vcV c.new⟩
def lyE (t:T3) (c:Cd):Int:=if vcV c.old≠Vd.zero then setE t c.path (vcV c.new) Md.zero else if checkE (vcV c.new) Md.zero .nil≠0 then checkE (vcV c.new) Md.zero .nil else putE t (vcV c.new,Md.zero,.nil) c.path
def lyT (t:T3) (c:Cd):T3:=putT t (cutN c.path) (vcV c.new,Md.zero,if vcV c.old≠Vd.zero then kidsAt t (cutN c.path) else .nil)
def TreeTo (t:T3) (E:Int) (r:T3) (w:World) (e:Ending) (w':World):Prop:=∃ u,e=.returned (.tuple #[u,.int .i64 E])∧G w w'∧(E≠0→u=.pointer none)∧(E=0→∃ p',u=.pointer (some ⟨p',0,none⟩)∧T1 w' p' r)∧t=t
theorem lay_any (p:Nat) (t:T3) (c:Cd) (X:Array Value) (hX:cc c=X) (w:World) (ht:T1 w p t) (hr:t.2.2.rises) (hs:c.path.size≤1048576) (hb:t.2.2.size≤150000):
  Calls Tryz.prog 87 #[.pointer (some ⟨p,0,none⟩),.agg X] w (TreeTo t (lyE t c) (lyT t c) w):=by
 obtain ⟨B,hB⟩:∃ B,w.heap.size=B:=⟨_,rfl⟩
 have lv:Ch.Lies (w.alloc (.cells X 66)) B 0 (cc c):=by
  rw [hX,← hB]
  exact lies_new w X 66
 have hG:G w (w.alloc (.cells X 66)):=G.alloc _ _
 have c0:(w.alloc (.cells X 66)).cell? ⟨B,0,none⟩=some (.string c.path):=lv.path
 have HT:=hid (⟨ht,hr,hb,hs⟩:T1 w p t∧t.2.2.rises∧t.2.2.size≤150000∧c.path.size≤1048576)
 have HO:Hid (Lies (w.alloc (.cells X 66)) B 1 (vx (vcV c.old)).toArray):=by have:=lv.old;rwa [Nat.zero_add] at this
 have HNw:Hid (Lies (w.alloc (.cells X 66)) B 36 (vx (vcV c.new)).toArray):=by have:=lv.new;rwa [Nat.zero_add] at this
 obtain ⟨YO,hYO⟩:∃ Y,(vx (vcV c.old)).toArray=Y:=⟨_,rfl⟩
 obtain ⟨YN,hYN⟩:∃ Y,(vx (vcV c.new)).toArray=Y:=⟨_,rfl⟩
 obtain ⟨ZO,hZO⟩:∃ Y,(vx Vd.zero).toArray=Y:=⟨_,rfl⟩
 have HYO:Hid (YO=(vx (vcV c.old)).toArray∧YO.size=35):=⟨hYO.symm,by rw [← hYO];simp [vx_len]⟩
 have HYN:Hid (YN=(vx (vcV c.new)).toArray∧YN.size=35):=⟨hYN.symm,by rw [← hYN];simp [vx_len]⟩
 have HZO:Hid (ZO=(vx Vd.zero).toArray):=hZO.symm
 obtain ⟨MZ,hMZ⟩:∃ Y,(mx Md.zero).toArray=Y:=⟨_,rfl⟩
 have HMZ:Hid (MZ=(mx Md.zero).toArray):=hMZ.symm
 have HG:=hid (⟨hG,hB⟩:_∧_)
 have HLV:=hid lv
 rw [hYO] at HO
 rw [hYN] at HNw
 clear lv hYO hYN hZO hMZ ht hr hb hs hX hG
 by_cases ho:vcV c.old=Vd.zero
 case neg=>
  have hE:lyE t c=setE t c.path (vcV c.new) Md.zero:=by unfold lyE;rw [if_pos ho]
  have hT:lyT t c=putT t (cutN c.path) (vcV c.new,Md.zero,kidsAt t (cutN c.path)):=by unfold lyT;rw [if_pos ho]
  rw [hE,hT]
  have C:=hid (set_any p t c.path (vcV c.new) Md.zero YN MZ HYN.out.1 HMZ.out _ (HT.out.1.grow HG.out.1) HT.out.2.1 HT.out.2.2.2 HT.out.2.2.1)
  have HBO:Hid ((!decide (vcV c.old=Vd.zero))=true):=by show (!decide (vcV c.old=Vd.zero))=true;simp [ho]
  clear hE hT ho
  go_enter Tryz.func87,Tryz.ntmps87
  go_upto_region 1 with fail
  try simp only [hB]
  generalize w.alloc (.cells X 66)=w1 at *
  clear hB
  go_wp2_with (first
   | ((with_reducible refine wpList_exec (.agg YO) ?_ ?_ ?_);exact exec_load24 _ rfl B 1 rfl YO HYO.out.2 HO.out;kernel_rfl)
   | ((with_reducible refine wpList_exec (.agg ZO) ?_ ?_ ?_);exact exec_build0 24 rfl ZO (by rw [HZO.out];exact own_zero) _;kernel_rfl)
   | ((with_reducible refine wpList_exec (.agg MZ) ?_ ?_ ?_);exact exec_build0 27 rfl MZ (by rw [HMZ.out];exact own_zero27) _;kernel_rfl)
   | ((with_reducible refine wpList_exec (.bool true) ?_ ?_ ?_);exact exec_neq24' _ _ rfl YO ZO rfl rfl (vcV c.old) Vd.zero HYO.out.1 HZO.out true HBO.out _;kernel_rfl)
   | ((with_reducible refine wpList_exec (.agg YN) ?_ ?_ ?_);exact exec_load24 _ rfl B 36 rfl YN HYN.out.2 HNw.out;kernel_rfl)
   | (go_at_call 121;refine C.out.mono ?_;rintro e w2 ⟨u,rfl,q1,q2,q3⟩;have HQ:=hid (⟨HG.out.1.trans q1,q2,q3⟩:_∧_∧_);clear q1 q2 q3))
  go_ret2
  exact ⟨u,rfl,HQ.out.1,HQ.out.2.1,HQ.out.2.2,rfl⟩
 have HBO:Hid ((!decide (vcV c.old=Vd.zero))=false):=by show (!decide (vcV c.old=Vd.zero))=false;simp [ho]
 have hT:lyT t c=putT t (cutN c.path) (vcV c.new,Md.zero,.nil):=by unfold lyT;rw [if_neg (by simpa using ho)]
 obtain ⟨NC,hNC⟩:∃ NC,nc ⟨#[]⟩ (vcV c.new) Md.zero (.slice none 0 0)=NC:=⟨_,rfl⟩
 have HC:Hid (∀ W,G w W→Calls Tryz.prog 29 #[.agg NC] W fun e w'=>∃ u,e=.returned (.tuple #[u,.int .i64 (checkE (vcV c.new) Md.zero .nil)])∧G W w'∧OfResP w' u (checkE (vcV c.new) Md.zero .nil) (vcV c.new) Md.zero .nil):=fun W _=>of_anyP NC ⟨#[]⟩ (vcV c.new) Md.zero .nil W ⟨.slice none 0 0,hNC.symm,none,0,rfl,Nat.le_refl _,.inl rfl⟩ (by decide)
 have HNC:=hid hNC
 obtain ⟨E,hE1⟩:∃ E,checkE (vcV c.new) Md.zero .nil=E:=⟨_,rfl⟩
 have HE1:=hid hE1
 rw [hE1] at HC
 have C1:=hid (HC.out _ HG.out.1)
 by_cases h0:E=0
 case neg=>
  have hE:lyE t c=E:=by unfold lyE;rw [if_neg (by simpa using ho),HE1.out,if_pos h0]
  rw [hE]
  have h1:(E != 0)=true:=by simpa using h0
  have H0:=hid h0
  clear hE hT ho h0 HC hNC hE1
  go_enter Tryz.func87,Tryz.ntmps87
  go_upto_region 1 with fail
  try simp only [hB]
  generalize w.alloc (.cells X 66)=w1 at *
  clear hB
  go_wp2_with (first
   | ((with_reducible refine wpList_exec (.agg YO) ?_ ?_ ?_);exact exec_load24 _ rfl B 1 rfl YO HYO.out.2 HO.out;kernel_rfl)
   | ((with_reducible refine wpList_exec (.agg ZO) ?_ ?_ ?_);exact exec_build0 24 rfl ZO (by rw [HZO.out];exact own_zero) _;kernel_rfl)
   | ((with_reducible refine wpList_exec (.bool false) ?_ ?_ ?_);exact exec_neq24' _ _ rfl YO ZO rfl rfl (vcV c.old) Vd.zero HYO.out.1 HZO.out false HBO.out _;kernel_rfl)
   | ((with_reducible refine wpList_exec (.agg YN) ?_ ?_ ?_);exact exec_load24 _ rfl B 36 rfl YN HYN.out.2 HNw.out;kernel_rfl)
   | ((with_reducible refine wpList_exec (.agg NC) ?_ ?_ ?_);exact exec_build30v _ rfl (vcV c.new) YN HYN.out.1 rfl NC HNC.out _;kernel_rfl)
   | (go_at_call 29;refine C1.out.mono ?_;rintro e w2 ⟨u,rfl,q1,q2⟩;have HQ:=hid (HG.out.1.trans q1);clear q1 q2))
  go_ret2
  exact ⟨_,rfl,HQ.out,fun _=>rfl,fun h=>absurd h H0.out,rfl⟩
 subst h0
 have hE:lyE t c=putE t (vcV c.new,Md.zero,.nil) c.path:=by unfold lyE;rw [if_neg (by simpa using ho),HE1.out,if_neg (by simp)]
 rw [hE,hT]
 clear hE hT ho HC hNC hE1
 go_enter Tryz.func87,Tryz.ntmps87
 go_upto_region 1 with fail
 try simp only [hB]
 generalize w.alloc (.cells X 66)=w1 at *
 clear hB
 go_wp2_with (first
  | ((with_reducible refine wpList_exec (.agg YO) ?_ ?_ ?_);exact exec_load24 _ rfl B 1 rfl YO HYO.out.2 HO.out;kernel_rfl)
  | ((with_reducible refine wpList_exec (.agg ZO) ?_ ?_ ?_);exact exec_build0 24 rfl ZO (by rw [HZO.out];exact own_zero) _;kernel_rfl)
  | ((with_reducible refine wpList_exec (.bool false) ?_ ?_ ?_);exact exec_neq24' _ _ rfl YO ZO rfl rfl (vcV c.old) Vd.zero HYO.out.1 HZO.out false HBO.out _;kernel_rfl)
  | ((with_reducible refine wpList_exec (.agg YN) ?_ ?_ ?_);exact exec_load24 _ rfl B 36 rfl YN HYN.out.2 HNw.out;kernel_rfl)
  | ((with_reducible refine wpList_exec (.agg NC) ?_ ?_ ?_);exact exec_build30v _ rfl (vcV c.new) YN HYN.out.1 rfl NC HNC.out _;kernel_rfl)
  | (go_at_call 29;refine C1.out.mono ?_;rintro e w2 ⟨u,rfl,q1,q2⟩;obtain ⟨ps,rfl,hps⟩:∃ ps,u=.pointer (some ⟨ps,0,none⟩)∧T1 w2 ps (vcV c.new,Md.zero,.nil):=(by rcases q2 with ⟨q,_⟩ | ⟨_,ps,k,e1,e2,e3,e4,e5⟩;exact absurd rfl q;exact ⟨ps,e1,AtTF.of e2 e4 e5 e3⟩);have HQ:=hid (⟨HG.out.1.trans q1,hps⟩:_∧_);have c2:w2.cell? ⟨B,0,none⟩=some (.string c.path):=q1.cell c0;have C2:=put_any (P:=fun _=>True) (R:=Tr w2) p ps t (vcV c.new,Md.zero,.nil) c.path w2 (HT.out.1.grow HQ.out.1) HQ.out.2 HT.out.2.1 HT.out.2.2.2 (by have:=HT.out.2.2.1;show t.2.2.size+0≤300000;omega) (fun _ _=>trivial);clear q1 q2 hps)
  | (go_at_call 122;refine C2.mono ?_;rintro e w3 ⟨u2,rfl,q1,q2,q3⟩;have HF:=hid (⟨HQ.out.1.trans q1,q2,fun h=>(q3 h).imp fun _ h=>⟨h.1,h.2.joinT q1⟩⟩:_∧_∧(_→∃ p',_∧T1 w3 p' _));clear q1 q2 q3))
 go_ret2
 exact ⟨u2,rfl,HF.out.1,HF.out.2.1,HF.out.2.2,rfl⟩
theorem putT_le:∀ {t:T3} {L:List ByteArray} {s x:T3},t.2.2.rises→dn t L=some x→s.2.2.size≤x.2.2.size→(putT t L s).2.2.size≤t.2.2.size
 | t,[],s,x,_,h,hs=>by cases h;exact hs
 | t,nm::L,s,x,ht,h,hs=>by
  rw [dn] at h
  cases e:t.2.2.get nm with
  | none=>rw [e] at h;cases h
  | some y=>
   rw [e,Option.bind_some] at h
   rw [putT,e,Option.getD_some]
   exact F.put_le ht e (putT_le (F.rises_get ht e).1 h hs)
theorem putT_size1:∀ {t:T3} {L:List ByteArray} {s:T3},t.2.2.rises→wayTo t L→(putT t L s).2.2.size≤t.2.2.size+s.2.2.size+1
 | t,[],s,_,_=>by rw [putT];omega
 | t,nm::L,s,ht,hw=>by
  rw [putT]
  cases e:t.2.2.get nm with
  | some y=>
   rw [Option.getD_some]
   have hw2:wayTo y L:=by
    rcases hw with rfl | ⟨s',q1,q2⟩
    ·trivial
    ·rw [e] at q1;cases q1;exact q2
   have h1:=F.put_get (nm:=nm) (v:=(putT y L s).1) (m:=(putT y L s).2.1) (fk:=(putT y L s).2.2) ht
   have h2:=putT_size1 (s:=s) (F.rises_get ht e).1 hw2
   rw [e] at h1
   simp only at h1 ⊢
   omega
  | none=>
   obtain rfl:L=[]:=by
    rcases hw with rfl | ⟨s',q1,_⟩
    ·rfl
    ·rw [e] at q1;cases q1
   rw [Option.getD_none,putT]
   exact F.put_size _
theorem kidsAt_rises {t:T3} {L:List ByteArray} (h:t.2.2.rises):(kidsAt t L).rises:=by
 unfold kidsAt
 cases e:dn t L with
 | none=>trivial
 | some x=>exact (dn_rises h e).1
theorem setE_dn {t:T3} {s:ByteArray} {v:Vd} {m:Md} (h:setE t s v m=0):wayE t s=0∧∃ x,dn t (cutN s)=some x:=by
 unfold setE at h
 by_cases h0:wayE t s=0
 ·rw [if_neg (by simpa using h0)] at h
  cases e:dn t (cutN s) with
  | none=>rw [e] at h;cases h
  | some x=>exact ⟨h0,x,rfl⟩
 ·rw [if_pos h0] at h;exact absurd h h0
theorem lyT_rises {t:T3} {c:Cd} (h:t.2.2.rises):(lyT t c).2.2.rises:=by
 unfold lyT
 refine putT_rises h ?_
 split
 ·exact kidsAt_rises h
 ·trivial
theorem lyT_size {t:T3} {c:Cd} (h:t.2.2.rises) (he:lyE t c=0):(lyT t c).2.2.size≤t.2.2.size+1:=by
 unfold lyE at he
 unfold lyT
 by_cases ho:vcV c.old=Vd.zero
 ·rw [if_neg (by simpa using ho)] at he ⊢
  by_cases h1:checkE (vcV c.new) Md.zero .nil=0
  ·rw [if_neg (by simpa using h1)] at he
   have:=putT_size1 (s:=(vcV c.new,Md.zero,F.nil)) h (wayE_ok (putE_ok he).1).2
   simpa [F.size] using this
  ·rw [if_pos h1] at he;exact absurd he h1
 ·rw [if_pos ho] at he ⊢
  obtain ⟨_,x,hx⟩:=setE_dn he
  have:=putT_le (s:=(vcV c.new,Md.zero,kidsAt t (cutN c.path))) h hx (by unfold kidsAt;rw [hx];exact Nat.le_refl _)
  omega
def ldM:T3→List Cd→Option T3
 | t,[]=>some t
 | t,c::L=>if vcV c.new=Vd.zero then ldM t L else if lyE t c≠0 then none else ldM (lyT t c) L
def OptTo (o:Option T3) (w:World) (e:Ending) (w':World):Prop:=∃ u E,e=.returned (.tuple #[u,.int .i64 E])∧G w w'∧match o with
 | none=>E≠0
 | some r=>E=0∧∃ p',u=.pointer (some ⟨p',0,none⟩)∧T1 w' p' r
theorem laid_any (p:Nat) (t:T3) (ao:Option Addr) (cp:Nat) (L:List Cd) (w:World) (ht:T1 w p t) (hr:t.2.2.rises) (h:HasA w (.slice ao L.length cp) L) (hn:L.length≤50000) (hb:t.2.2.size≤50000) (hp:∀ c∈L,c.path.size≤1048576):
  Calls Tryz.prog 41 #[.pointer (some ⟨p,0,none⟩),.slice ao L.length cp] w (OptTo (ldM t L) w):=by
 obtain ⟨n,hn'⟩:∃ n,L.length=n:=⟨_,rfl⟩
 have HA:=hid h
 have HN:=hid hn'
 have HP:=hid hp
 obtain ⟨R,hR⟩:∃ R,ldM t L=R:=⟨_,rfl⟩
 have H0:Hid (T1 w p t∧t.2.2.rises∧t.2.2.size≤50000+0∧R=ldM t (L.drop 0)):=⟨ht,hr,hb,by rw [List.drop_zero,hR]⟩
 rw [hR]
 rw [hn'] at hn HA ⊢
 clear h hn' hp ht hr hb hR
 go_enter Tryz.func41,Tryz.ntmps41
 go_wp2
 go_loopg [0,11] n (fun gh p0 i wr=>∃ (k pk:Nat) (tk:T3),k≤n∧gh=n-k∧p0=.pointer (some ⟨pk,0,none⟩)∧i=.int .i64 (k:Int)∧Hid (G w wr)∧Hid (T1 wr pk tk∧tk.2.2.rises∧tk.2.2.size≤50000+k∧R=ldM tk (L.drop k)))
 case atStart=>exact ⟨0,p,t,Nat.zero_le _,rfl,rfl,rfl,G.refl _,H0⟩
 case round=>
  clear H0
  obtain ⟨k,pk,tk,hk,rfl,rfl,rfl,HS,HT⟩:=hrel
  by_cases hlt:k<n
  ·have i1:(k:Int)<(n:Int):=by omega
   have i0:(0:Int)≤(k:Int):=by omega
   obtain ⟨r,hx⟩:∃ r,L[k]?=some r:=⟨L[k]'(by rw [HN.out];exact hlt),by simp⟩
   obtain ⟨ga,oa,rfl,la⟩:=(HA.out.below HS.out).at hx
   have hs:=HP.out r (List.mem_of_getElem? hx)
   have HRK:Hid (R=ldM tk (r::L.drop (k+1))):=by
    show R=_
    have hlt':=(List.getElem?_eq_some_iff.1 hx).1
    rw [HT.out.2.2.2,List.drop_eq_getElem_cons hlt',(List.getElem?_eq_some_iff.1 hx).2]
   obtain ⟨B1,hB1⟩:∃ B1,wr.heap.size=B1:=⟨_,rfl⟩
   obtain ⟨g1,lv,hA1⟩:=cvar wr r B1 hB1
   obtain ⟨X,hX⟩:∃ X,cc r=X:=⟨_,rfl⟩
   have HX:Hid (X.size=71∧X.all (·.oneCell')=true∧cc r=X):=⟨by rw [← hX];exact cc_size r,by rw [← hX];exact cc_one r,hX⟩
   have HLa:Hid (Ch.Lies wr ga (oa+k*71) (cc r)):=la
   rw [hX] at HLa g1 lv
   obtain ⟨w1,hw1⟩:∃ w1,(wr.alloc (.cells z55 66)).setRow B1 X=w1:=⟨_,rfl⟩
   rw [hw1] at g1 lv
   have HLX:Hid (Ch.Lies w1 B1 0 X):=lv
   rw [← hX] at lv
   have HA1:=hid hA1
   have HW1:=hid hw1
   have HS1:Hid (G w w1∧G wr w1):=⟨HS.out.trans g1,g1⟩
   have HNw:Hid (Lies w1 B1 36 (vx (vcV r.new)).toArray):=by have:=lv.new;rwa [Nat.zero_add] at this
   obtain ⟨YN,hYN⟩:∃ Y,(vx (vcV r.new)).toArray=Y:=⟨_,rfl⟩
   obtain ⟨ZO,hZO⟩:∃ Y,(vx Vd.zero).toArray=Y:=⟨_,rfl⟩
   have HYN:Hid (YN=(vx (vcV r.new)).toArray∧YN.size=35):=⟨hYN.symm,by rw [← hYN];simp [vx_len]⟩
   have HZO:Hid (ZO=(vx Vd.zero).toArray):=hZO.symm
   rw [hYN] at HNw
   clear la lv g1 hw1 hA1 hX hx hYN hZO
   go_upto_region 4 with (first
    | ((with_reducible refine wpList_exec (.agg X) ?_ ?_ ?_);exact Ch.exec_load 66 _ rfl ga (oa+k*71) rfl X _ HLa.out Ch.under55 rfl (by rw [Ch.size55,HX.out.1]);kernel_rfl)
    | ((with_reducible refine wpList_execW (.pointer (some ⟨B1,0,none⟩)) (wr.alloc (.cells z55 66)) ?_ ?_ ?_);exact Ch.exec_allocT 66 z55 rfl zero55 _ _ hB1;kernel_rfl)
    | ((with_reducible refine wpList_skipW w1 ?_ ?_ ?_);exact (by rw [← HW1.out];exact Ch.exec_storeT 66 _ _ rfl B1 X z55 rfl rfl _ HA1.out (by rw [Ch.size55,HX.out.1]) (by rw [z55_size,HX.out.1]) HX.out.2.1);kernel_rfl))
   by_cases hz:vcV r.new=Vd.zero
   ·have HBO:Hid (decide (vcV r.new=Vd.zero)=true):=by show decide (vcV r.new=Vd.zero)=true;simp [hz]
    have HE:Hid (R=ldM tk (L.drop (k+1))):=by
     show R=_
     rw [HRK.out,ldM,if_pos hz]
    clear hz HRK
    go_wp2_with (first
     | ((with_reducible refine wpList_exec (.agg YN) ?_ ?_ ?_);exact exec_load24 _ rfl B1 36 rfl YN HYN.out.2 HNw.out;kernel_rfl)
     | ((with_reducible refine wpList_exec (.agg ZO) ?_ ?_ ?_);exact exec_build0 24 rfl ZO (by rw [HZO.out];exact own_zero) _;kernel_rfl)
     | ((with_reducible refine wpList_exec (.bool true) ?_ ?_ ?_);exact exec_eq24' _ _ rfl YN ZO rfl rfl (vcV r.new) Vd.zero HYN.out.1 HZO.out true HBO.out _;kernel_rfl))
    go_roundg (n-(k+1))
    case measure=>omega
    case rel=>exact ⟨k+1,pk,tk,by omega,rfl,rfl,by go_num,HS1.out.1,HT.out.1.grow HS1.out.2,HT.out.2.1,by have:=HT.out.2.2.1;omega,HE.out⟩
   ·have HBO:Hid (decide (vcV r.new=Vd.zero)=false):=by show decide (vcV r.new=Vd.zero)=false;simp [hz]
    have CL:=hid (lay_any pk tk r X HX.out.2.2 w1 (HT.out.1.grow HS1.out.2) HT.out.2.1 hs (by have:=HT.out.2.2.1;omega))
    have hRn:R=if lyE tk r≠0 then none else ldM (lyT tk r) (L.drop (k+1)):=by rw [HRK.out,ldM,if_neg hz]
    obtain ⟨E,hE⟩:∃ E,lyE tk r=E:=⟨_,rfl⟩
    have HE:=hid hE
    rw [hE] at CL hRn
    have HRn:=hid hRn
    clear hz HRK hE hRn
    by_cases h0:E=0
    ·subst h0
     have HR2:Hid (R=ldM (lyT tk r) (L.drop (k+1))):=by
      show R=_
      rw [HRn.out,if_neg (by simp)]
     clear HRn
     go_wp2_with (first
      | ((with_reducible refine wpList_exec (.agg YN) ?_ ?_ ?_);exact exec_load24 _ rfl B1 36 rfl YN HYN.out.2 HNw.out;kernel_rfl)
      | ((with_reducible refine wpList_exec (.agg ZO) ?_ ?_ ?_);exact exec_build0 24 rfl ZO (by rw [HZO.out];exact own_zero) _;kernel_rfl)
      | ((with_reducible refine wpList_exec (.bool false) ?_ ?_ ?_);exact exec_eq24' _ _ rfl YN ZO rfl rfl (vcV r.new) Vd.zero HYN.out.1 HZO.out false HBO.out _;kernel_rfl)
      | ((with_reducible refine wpList_exec (.agg X) ?_ ?_ ?_);exact Ch.exec_load 66 _ rfl B1 0 rfl X _ HLX.out Ch.under55 rfl (by rw [Ch.size55,HX.out.1]);kernel_rfl)
      | (go_at_call 87;refine CL.out.mono ?_;rintro e w2 ⟨u,rfl,q1,_,q3,_⟩;obtain ⟨p2,rfl,hp2⟩:=q3 rfl;have HQ:=hid (⟨HS1.out.1.trans q1,hp2⟩:_∧_);clear q1 q3 hp2))
     go_roundg (n-(k+1))
     case measure=>omega
     case rel=>exact ⟨k+1,p2,lyT tk r,by omega,rfl,rfl,by go_num,HQ.out.1,HQ.out.2,lyT_rises HT.out.2.1,by have:=HT.out.2.2.1;have:=lyT_size HT.out.2.1 HE.out;omega,HR2.out⟩
    ·have h1:(E != 0)=true:=by simpa using h0
     have HR2:Hid (R=none∧E≠0):=⟨by rw [HRn.out,if_pos h0],h0⟩
     clear HRn h0
     go_wp2_with (first
      | ((with_reducible refine wpList_exec (.agg YN) ?_ ?_ ?_);exact exec_load24 _ rfl B1 36 rfl YN HYN.out.2 HNw.out;kernel_rfl)
      | ((with_reducible refine wpList_exec (.agg ZO) ?_ ?_ ?_);exact exec_build0 24 rfl ZO (by rw [HZO.out];exact own_zero) _;kernel_rfl)
      | ((with_reducible refine wpList_exec (.bool false) ?_ ?_ ?_);exact exec_eq24' _ _ rfl YN ZO rfl rfl (vcV r.new) Vd.zero HYN.out.1 HZO.out false HBO.out _;kernel_rfl)
      | ((with_reducible refine wpList_exec (.agg X) ?_ ?_ ?_);exact Ch.exec_load 66 _ rfl B1 0 rfl X _ HLX.out Ch.under55 rfl (by rw [Ch.size55,HX.out.1]);kernel_rfl)
      | (go_at_call 87;refine CL.out.mono ?_;rintro e w2 ⟨u,rfl,q1,_,_,_⟩;have HQ:=hid (HS1.out.1.trans q1);clear q1))
     go_ret2
     exact ⟨_,_,rfl,HQ.out,by rw [HR2.out.1];exact HR2.out.2⟩
  ·have i1:¬ (k:Int)<(n:Int):=by omega
   have HE:Hid (R=some tk):=by
    show R=_
    rw [HT.out.2.2.2,List.drop_of_length_le (by have:=HN.out;omega)];rfl
   go_wp2
   go_ret2
   exact ⟨_,_,rfl,HS.out,by rw [HE.out];exact ⟨rfl,pk,rfl,HT.out.1⟩⟩
end Go.Proofs.YthfcanpkhjgomaaGreat
