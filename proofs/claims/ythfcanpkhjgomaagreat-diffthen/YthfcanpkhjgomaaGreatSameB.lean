import Derived.Test.YthfcanpkhjgomaaGreatSameA
set_option maxRecDepth 100000
set_option maxHeartbeats 4000000
namespace Go.Proofs.YthfcanpkhjgomaaGreat
open Go.RowKit Go.Shelf
attribute [local go_sem] Oper.semAt_some
theorem same_step (k:K) (ih:∀ k':K,k'.flat.size<k.flat.size→SameOk k'):SameOk k:=by
 intro o p v m au ou w hT hpl htr hr hsz hU
 cases ou with
 | none=>
  have e:au=none:=hU
  subst e
  exact same_none o p w
 | some x=>
 obtain ⟨pu,rfl,hTu,hplu,htru,hru,hszu⟩:=hU
 obtain ⟨vu,mu,ku⟩:=x
 simp only at hTu hplu hru hszu
 by_cases hpp:p=pu
 ·subst hpp
  obtain ⟨rfl,rfl,rfl⟩:=hT.uniq hTu
  have:=same_self o p w
  rw [← sameT_refl o (v,m,k.flat)] at this
  exact this
 have hans:sameK o (v,m,k) (some (vu,mu,ku))=(sameV o v vu&&sameF o k.flat ku.flat):=rfl
 obtain ⟨b,hb⟩:∃ b,sameK o (v,m,k) (some (vu,mu,ku))=b:=⟨_,rfl⟩
 have HBB:=hid (hb.symm.trans hans)
 rw [hb]
 obtain ⟨pk,hT1,hT2⟩:=hT
 obtain ⟨pku,hTu1,hTu2⟩:=hTu
 obtain ⟨ak,rfl⟩:=hT2.form
 obtain ⟨aku,rfl⟩:=hTu2.form
 obtain ⟨X,hX⟩:∃ X,X=(vx v).toArray:=⟨_,rfl⟩
 obtain ⟨Y,hY⟩:∃ Y,Y=(vx vu).toArray:=⟨_,rfl⟩
 have HX:Hid (X.size=35∧Y.size=35):=⟨by rw [hX];exact vx_size _,by rw [hY];exact vx_size _⟩
 have HLX0:Hid (Lies w p 0 X∧Lies w pu 0 Y):=by
  have h1:=hT1.part 0 35
  have h2:=hTu1.part 0 35
  rw [tc_val,← hX] at h1
  rw [tc_val,← hY] at h2
  exact ⟨h1,h2⟩
 obtain ⟨r0,hr0⟩:∃ r0,sameV o v vu=r0:=⟨_,rfl⟩
 have CV:Hid (∀ W,Calls Tryz.prog 60 #[.agg X,.agg Y,.bool o] W fun e w'=>e=.returned (.bool r0)∧G W w'):=fun W=>by rw [hX,hY,← hr0];exact sameValue_any o v vu W
 have C65:Hid (∀ W,G w W→Calls Tryz.prog 61 #[.pointer ak] W fun e w'=>e=.returned (.int .i64 k.flat.len)∧G W w'):=fun W hW=>Calls.grown (many2_any k _ W (hT2.grow hW))
 have C65u:Hid (∀ W,G w W→Calls Tryz.prog 61 #[.pointer aku] W fun e w'=>e=.returned (.int .i64 ku.flat.len)∧G W w'):=fun W hW=>Calls.grown (many2_any ku _ W (hTu2.grow hW))
 have C53:Hid (∀ W,G w W→Calls Tryz.prog 62 #[.pointer (some ⟨p,0,none⟩)] W fun e w'=>e=.returned (.int .i64 ((1+k.flat.size:Nat):Int))∧G W w'):=fun W hW=>Calls.grown (count_any p v m k W (AtT.grow hW ⟨_,hT1,hT2⟩) (by omega))
 have C53u:Hid (∀ W,G w W→Calls Tryz.prog 62 #[.pointer (some ⟨pu,0,none⟩)] W fun e w'=>e=.returned (.int .i64 ((1+ku.flat.size:Nat):Int))∧G W w'):=fun W hW=>Calls.grown (count_any pu vu mu ku W (AtT.grow hW ⟨_,hTu1,hTu2⟩) (by omega))
 have HC39:=hid (lies_cell hTu1 39 _ (tc_kids ..))
 have c39:=lies_cell hT1 39 _ (tc_kids ..)
 have cu39:=lies_cell hTu1 39 _ (tc_kids ..)
 have HT:=hid (⟨⟨_,hT1,hT2⟩,hpl,htr,hr,hsz⟩:AtT w p v m k∧k.plain w∧Tr w p∧k.flat.rises∧k.flat.size≤100000)
 have HU:=hid (⟨hTu2,hplu,htru,hru,hszu⟩:At w ku (.pointer aku)∧ku.plain w∧Tr w pu∧ku.flat.rises∧ku.flat.size≤100000)
 have HIH:=hid ih
 have HR0:=hid hr0
 have HS0:=hid (SV.new w (some ⟨pu,0,none⟩) o)
 have HG0:Hid (G w (((w.alloc (.cells #[.pointer (some ⟨pu,0,none⟩)] 34)).alloc (.cells #[.bool o] 4)).alloc (.cells #[.bool false] 4))):=((G.alloc _ _).trans (G.alloc _ _)).trans (G.alloc _ _)
 have HPP:=hid hpp
 clear hX hY hT1 hT2 hTu1 hTu2 hpl htr hr hsz hplu htru hru hszu ih hr0 hans hb hpp
 refine (callsIn_wide (n:=3)).1 ?_
 refine callsIn_of_wp_marks Tryz.func21 rfl trivial (Go.wpIn_mono (Q:=RetM Tryz.f21 _) ?_ RetM.post) rfl
 simp only [Tryz.ntmps21,List.size_toArray,List.length_cons,List.length_nil,Nat.reduceAdd,Nat.reduceSub,Array.replicate_succ,Array.replicate_zero,List.push_toArray,List.append_toArray,List.nil_append,List.cons_append]
 obtain ⟨B,hB⟩:∃ B,w.heap.size=B:=⟨_,rfl⟩
 gi_wp2_with ((with_reducible refine wpListIn_execW (.bool false) (((w.alloc (.cells #[.pointer (some ⟨pu,0,none⟩)] 34)).alloc (.cells #[.bool o] 4)).alloc (.cells #[.bool false] 4)) ?_ ?_ ?_ ?_ ?_);rfl;exact exec_eq55 _ _ rfl p pu rfl rfl HPP.out _ (HT.out.2.2.1.grow HG0.out) (HU.out.2.2.1.grow HG0.out);(intro c h;cases h);exact fun _ _=>trivial)
 rw [hB] at HS0
 have HB:=hid hB
 generalize (((w.alloc (.cells #[.pointer (some ⟨pu,0,none⟩)] 34)).alloc (.cells #[.bool o] 4)).alloc (.cells #[.bool false] 4))=W1 at *
 clear hB
 rw [show B+1+1=B+2 from rfl]
 have HS:Hid (SV W1.drew B (some ⟨pu,0,none⟩) o false):=HS0.out.grow (G.drew W1)
 have HG:Hid (G w W1.drew):=HG0.out.trans (G.drew W1)
 clear HS0 HG0
 refine wp_region_II ?_
 generalize W1.drew=W2 at *
 have HLX:Hid (Lies W2 p 0 X∧Lies W2 pu 0 Y):=⟨HG.out.lies HLX0.out.1,HG.out.lies HLX0.out.2⟩
 have c0:=HS.out.c0
 have c1:=HS.out.c1
 replace c39:=HG.out.cell c39
 replace cu39:=HG.out.cell cu39
 obtain ⟨Lk,hLk⟩:∃ L,k.flat.len=L:=⟨_,rfl⟩
 obtain ⟨Lu,hLu⟩:∃ L,ku.flat.len=L:=⟨_,rfl⟩
 obtain ⟨Sk,hSk⟩:∃ L,1+k.flat.size=L:=⟨_,rfl⟩
 obtain ⟨Su,hSu⟩:∃ L,1+ku.flat.size=L:=⟨_,rfl⟩
 rw [hLk] at C65
 rw [hLu] at C65u
 rw [hSk] at C53
 rw [hSu] at C53u
 have HL:=hid (⟨hLk,hLu,hSk,hSu⟩:_∧_∧_∧_)
 clear hLk hLu hSk hSu HLX0
 have FALSE:∀ (tm:Array Value) (W:World),G w W→SV W B (some ⟨pu,0,none⟩) o false→b=false→tm.getD 6 undef=.pointer (some ⟨B+2,0,none⟩)→∃ v,(results Tryz.f21 tm).run Tryz.prog (W.setCell ⟨B+2,0,none⟩ (.bool false))=.ok v (W.setCell ⟨B+2,0,none⟩ (.bool false))∧(Ending.returned v=.returned (.bool b)∧G w (W.setCell ⟨B+2,0,none⟩ (.bool false))):=by
  intro tm W hG hS hb htm
  refine ⟨_,results_bool (p:=6) rfl tm _ (B+2) false htm (hS.set false).c2,by rw [hb],?_⟩
  have hBw:=HB.out
  exact Below.setCell (p:=⟨B+2,0,none⟩) hG (by show w.heap.size≤B+2;omega) _
 cases r0 with
 | false=>
  have HF:Hid (b=false):=by have h:=HBB.out;rw [HR0.out] at h;exact h
  refine takeII lets_wide 0 18 (.pointer (some ⟨p,0,none⟩)) rfl rfl (by kernel_rfl) (by kernel_rfl) (by kernel_rfl) (by kernel_rfl) (fun _ _ _ h=>h) (by kernel_rfl) (fun wz hz=>?_) ?_
  ·rfl
  try simp only [Act.put,sA,sB,sC]
  refine takeII lets_wide 1 19 (.pointer (some ⟨p,0,none⟩)) rfl rfl (by kernel_rfl) (by kernel_rfl) (by kernel_rfl) (by kernel_rfl) (fun _ _ _ h=>h) (by kernel_rfl) (fun wz hz=>?_) ?_
  ·go_simp
  try simp only [Act.put,sA,sB,sC]
  refine takeII lets_wide 2 20 (.pointer (some ⟨p,0,none⟩)) rfl rfl (by kernel_rfl) (by kernel_rfl) (by kernel_rfl) (by kernel_rfl) (fun _ _ _ h=>h) (by kernel_rfl) (fun wz hz=>?_) ?_
  ·go_simp
  try simp only [Act.put,sA,sB,sC]
  refine takeII lets_wide 3 21 (.agg X) rfl rfl (by kernel_rfl) (by kernel_rfl) (by kernel_rfl) (by kernel_rfl) (fun _ _ _ h=>h) (by kernel_rfl) (fun wz hz=>?_) ?_
  ·exact exec_load24 _ rfl p 0 rfl X HX.out.1 (hz.lies HLX.out.1)
  try simp only [Act.put,sA,sB,sC]
  refine takeII lets_wide 4 22 (.pointer (some ⟨pu,0,none⟩)) rfl rfl (by kernel_rfl) (by kernel_rfl) (by kernel_rfl) (by kernel_rfl) (fun _ _ _ h=>h) (by kernel_rfl) (fun wz hz=>?_) ?_
  ·have y0:=hz.cell c0;go_simp
  try simp only [Act.put,sA,sB,sC]
  refine takeII lets_wide 5 23 (.pointer (some ⟨pu,0,none⟩)) rfl rfl (by kernel_rfl) (by kernel_rfl) (by kernel_rfl) (by kernel_rfl) (fun _ _ _ h=>h) (by kernel_rfl) (fun wz hz=>?_) ?_
  ·go_simp
  try simp only [Act.put,sA,sB,sC]
  refine takeII lets_wide 6 24 (.pointer (some ⟨pu,0,none⟩)) rfl rfl (by kernel_rfl) (by kernel_rfl) (by kernel_rfl) (by kernel_rfl) (fun _ _ _ h=>h) (by kernel_rfl) (fun wz hz=>?_) ?_
  ·go_simp
  try simp only [Act.put,sA,sB,sC]
  refine takeII lets_wide 7 25 (.agg Y) rfl rfl (by kernel_rfl) (by kernel_rfl) (by kernel_rfl) (by kernel_rfl) (fun _ _ _ h=>h) (by kernel_rfl) (fun wz hz=>?_) ?_
  ·exact exec_load24 _ rfl pu 0 rfl Y HX.out.2 (hz.lies HLX.out.2)
  try simp only [Act.put,sA,sB,sC]
  refine takeII lets_wide 8 26 (.bool o) rfl rfl (by kernel_rfl) (by kernel_rfl) (by kernel_rfl) (by kernel_rfl) (fun _ _ _ h=>h) (by kernel_rfl) (fun wz hz=>?_) ?_
  ·have y0:=hz.cell c1;go_simp
  try simp only [Act.put,sA,sB,sC]
  refine callII lets_wide 9 27 (.bool false) 60 #[.agg X,.agg Y,.bool o] rfl rfl (by kernel_rfl) (by kernel_rfl) (by kernel_rfl) (by kernel_rfl) (fun _ _ _ h=>h) (by kernel_rfl) (fun wz=>by go_simp) (fun wz hz=>?_) ?_
  ·exact callsIn_wide.2 (CV.out wz)
  try simp only [Act.put,sA,sB,sC]
  refine takeII lets_wide 10 28 (.bool true) rfl rfl (by kernel_rfl) (by kernel_rfl) (by kernel_rfl) (by kernel_rfl) (fun _ _ _ h=>h) (by kernel_rfl) (fun wz hz=>?_) ?_
  ·go_simp
  try simp only [Act.put,sA,sB,sC]
  refine takeII lets_wide 11 29 (.bool true) rfl rfl (by kernel_rfl) (by kernel_rfl) (by kernel_rfl) (by kernel_rfl) (fun _ _ _ h=>h) (by kernel_rfl) (fun wz hz=>?_) ?_
  ·rfl
  try simp only [Act.put,sA,sB,sC]
  refine skipII lets_wide 12 30 rfl rfl (by kernel_rfl) (by kernel_rfl) (by kernel_rfl) (by kernel_rfl) (fun _ _ _ h=>h) (by kernel_rfl) ?_
  try simp only [Act.put,sA,sB,sC]
  refine skipII lets_wide 13 31 rfl rfl (by kernel_rfl) (by kernel_rfl) (by kernel_rfl) (by kernel_rfl) (fun _ _ _ h=>h) (by kernel_rfl) ?_
  try simp only [Act.put,sA,sB,sC]
  refine skipII lets_wide 14 32 rfl rfl (by kernel_rfl) (by kernel_rfl) (by kernel_rfl) (by kernel_rfl) (fun _ _ _ h=>h) (by kernel_rfl) ?_
  try simp only [Act.put,sA,sB,sC]
  refine skipII lets_wide 15 33 rfl rfl (by kernel_rfl) (by kernel_rfl) (by kernel_rfl) (by kernel_rfl) (fun _ _ _ h=>h) (by kernel_rfl) ?_
  try simp only [Act.put,sA,sB,sC]
  refine skipII lets_wide 16 34 rfl rfl (by kernel_rfl) (by kernel_rfl) (by kernel_rfl) (by kernel_rfl) (fun _ _ _ h=>h) (by kernel_rfl) ?_
  try simp only [Act.put,sA,sB,sC]
  refine skipII lets_wide 17 35 rfl rfl (by kernel_rfl) (by kernel_rfl) (by kernel_rfl) (by kernel_rfl) (fun _ _ _ h=>h) (by kernel_rfl) ?_
  try simp only [Act.put,sA,sB,sC]
  refine skipII lets_wide 18 36 rfl rfl (by kernel_rfl) (by kernel_rfl) (by kernel_rfl) (by kernel_rfl) (fun _ _ _ h=>h) (by kernel_rfl) ?_
  try simp only [Act.put,sA,sB,sC]
  refine skipII lets_wide 19 37 rfl rfl (by kernel_rfl) (by kernel_rfl) (by kernel_rfl) (by kernel_rfl) (fun _ _ _ h=>h) (by kernel_rfl) ?_
  try simp only [Act.put,sA,sB,sC]
  refine skipII lets_wide 20 38 rfl rfl (by kernel_rfl) (by kernel_rfl) (by kernel_rfl) (by kernel_rfl) (fun _ _ _ h=>h) (by kernel_rfl) ?_
  try simp only [Act.put,sA,sB,sC]
  refine skipII lets_wide 21 39 rfl rfl (by kernel_rfl) (by kernel_rfl) (by kernel_rfl) (by kernel_rfl) (fun _ _ _ h=>h) (by kernel_rfl) ?_
  try simp only [Act.put,sA,sB,sC]
  refine skipII lets_wide 22 40 rfl rfl (by kernel_rfl) (by kernel_rfl) (by kernel_rfl) (by kernel_rfl) (fun _ _ _ h=>h) (by kernel_rfl) ?_
  try simp only [Act.put,sA,sB,sC]
  refine takeII lets_wide 23 41 (.bool true) rfl rfl (by kernel_rfl) (by kernel_rfl) (by kernel_rfl) (by kernel_rfl) (fun _ _ _ h=>h) (by kernel_rfl) (fun wz hz=>?_) ?_
  ·go_simp
  try simp only [Act.put,sA,sB,sC]
  refine takeII lets_wide 24 42 (.bool true) rfl rfl (by kernel_rfl) (by kernel_rfl) (by kernel_rfl) (by kernel_rfl) (fun _ _ _ h=>h) (by kernel_rfl) (fun wz hz=>?_) ?_
  ·rfl
  try simp only [Act.put,sA,sB,sC]
  refine skipII lets_wide 25 43 rfl rfl (by kernel_rfl) (by kernel_rfl) (by kernel_rfl) (by kernel_rfl) (fun _ _ _ h=>h) (by kernel_rfl) ?_
  try simp only [Act.put,sA,sB,sC]
  refine skipII lets_wide 26 44 rfl rfl (by kernel_rfl) (by kernel_rfl) (by kernel_rfl) (by kernel_rfl) (fun _ _ _ h=>h) (by kernel_rfl) ?_
  try simp only [Act.put,sA,sB,sC]
  refine skipII lets_wide 27 45 rfl rfl (by kernel_rfl) (by kernel_rfl) (by kernel_rfl) (by kernel_rfl) (fun _ _ _ h=>h) (by kernel_rfl) ?_
  try simp only [Act.put,sA,sB,sC]
  refine skipII lets_wide 28 46 rfl rfl (by kernel_rfl) (by kernel_rfl) (by kernel_rfl) (by kernel_rfl) (fun _ _ _ h=>h) (by kernel_rfl) ?_
  try simp only [Act.put,sA,sB,sC]
  refine skipII lets_wide 29 47 rfl rfl (by kernel_rfl) (by kernel_rfl) (by kernel_rfl) (by kernel_rfl) (fun _ _ _ h=>h) (by kernel_rfl) ?_
  try simp only [Act.put,sA,sB,sC]
  refine takeII lets_wide 30 48 (.bool true) rfl rfl (by kernel_rfl) (by kernel_rfl) (by kernel_rfl) (by kernel_rfl) (fun _ _ _ h=>h) (by kernel_rfl) (fun wz hz=>?_) ?_
  ·go_simp
  try simp only [Act.put,sA,sB,sC]
  refine doneII (by kernel_rfl) (fun W9 hg9=>?_)
  have H9:=hid (⟨HG.out.trans hg9,HS.out.grow hg9⟩:G w W9∧SV W9 B (some ⟨pu,0,none⟩) o false)
  have c2:=H9.out.2.c2
  have f2:=H9.out.2.f2
  clear hg9 c0 c1
  gi_wp2_with fail
  exact FALSE _ W9 H9.out.1 H9.out.2 HF.out rfl
 | true=>
  by_cases hl:Lk=Lu
  ·subst hl
   by_cases hz':Sk=Su
   ·subst hz'
    have hne:((Lk:Int) != (Lk:Int))=false:=by simp
    have hne2:((Sk:Int) != (Sk:Int))=false:=by simp
    refine takeII lets_wide 0 18 (.pointer (some ⟨p,0,none⟩)) rfl rfl (by kernel_rfl) (by kernel_rfl) (by kernel_rfl) (by kernel_rfl) (fun _ _ _ h=>h) (by kernel_rfl) (fun wz hz=>?_) ?_
    ·rfl
    try simp only [Act.put,sA,sB,sC]
    refine takeII lets_wide 1 19 (.pointer (some ⟨p,0,none⟩)) rfl rfl (by kernel_rfl) (by kernel_rfl) (by kernel_rfl) (by kernel_rfl) (fun _ _ _ h=>h) (by kernel_rfl) (fun wz hz=>?_) ?_
    ·go_simp
    try simp only [Act.put,sA,sB,sC]
    refine takeII lets_wide 2 20 (.pointer (some ⟨p,0,none⟩)) rfl rfl (by kernel_rfl) (by kernel_rfl) (by kernel_rfl) (by kernel_rfl) (fun _ _ _ h=>h) (by kernel_rfl) (fun wz hz=>?_) ?_
    ·go_simp
    try simp only [Act.put,sA,sB,sC]
    refine takeII lets_wide 3 21 (.agg X) rfl rfl (by kernel_rfl) (by kernel_rfl) (by kernel_rfl) (by kernel_rfl) (fun _ _ _ h=>h) (by kernel_rfl) (fun wz hz=>?_) ?_
    ·exact exec_load24 _ rfl p 0 rfl X HX.out.1 (hz.lies HLX.out.1)
    try simp only [Act.put,sA,sB,sC]
    refine takeII lets_wide 4 22 (.pointer (some ⟨pu,0,none⟩)) rfl rfl (by kernel_rfl) (by kernel_rfl) (by kernel_rfl) (by kernel_rfl) (fun _ _ _ h=>h) (by kernel_rfl) (fun wz hz=>?_) ?_
    ·have y0:=hz.cell c0;go_simp
    try simp only [Act.put,sA,sB,sC]
    refine takeII lets_wide 5 23 (.pointer (some ⟨pu,0,none⟩)) rfl rfl (by kernel_rfl) (by kernel_rfl) (by kernel_rfl) (by kernel_rfl) (fun _ _ _ h=>h) (by kernel_rfl) (fun wz hz=>?_) ?_
    ·go_simp
    try simp only [Act.put,sA,sB,sC]
    refine takeII lets_wide 6 24 (.pointer (some ⟨pu,0,none⟩)) rfl rfl (by kernel_rfl) (by kernel_rfl) (by kernel_rfl) (by kernel_rfl) (fun _ _ _ h=>h) (by kernel_rfl) (fun wz hz=>?_) ?_
    ·go_simp
    try simp only [Act.put,sA,sB,sC]
    refine takeII lets_wide 7 25 (.agg Y) rfl rfl (by kernel_rfl) (by kernel_rfl) (by kernel_rfl) (by kernel_rfl) (fun _ _ _ h=>h) (by kernel_rfl) (fun wz hz=>?_) ?_
    ·exact exec_load24 _ rfl pu 0 rfl Y HX.out.2 (hz.lies HLX.out.2)
    try simp only [Act.put,sA,sB,sC]
    refine takeII lets_wide 8 26 (.bool o) rfl rfl (by kernel_rfl) (by kernel_rfl) (by kernel_rfl) (by kernel_rfl) (fun _ _ _ h=>h) (by kernel_rfl) (fun wz hz=>?_) ?_
    ·have y0:=hz.cell c1;go_simp
    try simp only [Act.put,sA,sB,sC]
    refine callII lets_wide 9 27 (.bool true) 60 #[.agg X,.agg Y,.bool o] rfl rfl (by kernel_rfl) (by kernel_rfl) (by kernel_rfl) (by kernel_rfl) (fun _ _ _ h=>h) (by kernel_rfl) (fun wz=>by go_simp) (fun wz hz=>?_) ?_
    ·exact callsIn_wide.2 (CV.out wz)
    try simp only [Act.put,sA,sB,sC]
    refine takeII lets_wide 10 28 (.bool false) rfl rfl (by kernel_rfl) (by kernel_rfl) (by kernel_rfl) (by kernel_rfl) (fun _ _ _ h=>h) (by kernel_rfl) (fun wz hz=>?_) ?_
    ·go_simp
    try simp only [Act.put,sA,sB,sC]
    refine takeII lets_wide 11 29 (.bool false) rfl rfl (by kernel_rfl) (by kernel_rfl) (by kernel_rfl) (by kernel_rfl) (fun _ _ _ h=>h) (by kernel_rfl) (fun wz hz=>?_) ?_
    ·rfl
    try simp only [Act.put,sA,sB,sC]
    refine takeII lets_wide 12 30 (.pointer (some ⟨p,0,none⟩)) rfl rfl (by kernel_rfl) (by kernel_rfl) (by kernel_rfl) (by kernel_rfl) (fun _ _ _ h=>h) (by kernel_rfl) (fun wz hz=>?_) ?_
    ·rfl
    try simp only [Act.put,sA,sB,sC]
    refine takeII lets_wide 13 31 (.pointer (some ⟨p,0,none⟩)) rfl rfl (by kernel_rfl) (by kernel_rfl) (by kernel_rfl) (by kernel_rfl) (fun _ _ _ h=>h) (by kernel_rfl) (fun wz hz=>?_) ?_
    ·go_simp
    try simp only [Act.put,sA,sB,sC]
    refine takeII lets_wide 14 32 (.pointer (some ⟨p,39,none⟩)) rfl rfl (by kernel_rfl) (by kernel_rfl) (by kernel_rfl) (by kernel_rfl) (fun _ _ _ h=>h) (by kernel_rfl) (fun wz hz=>?_) ?_
    ·go_simp
    try simp only [Act.put,sA,sB,sC]
    refine takeII lets_wide 15 33 (.pointer ak) rfl rfl (by kernel_rfl) (by kernel_rfl) (by kernel_rfl) (by kernel_rfl) (fun _ _ _ h=>h) (by kernel_rfl) (fun wz hz=>?_) ?_
    ·have y0:=hz.cell c39;go_simp
    try simp only [Act.put,sA,sB,sC]
    refine callII lets_wide 16 34 (.int .i64 Lk) 61 #[.pointer ak] rfl rfl (by kernel_rfl) (by kernel_rfl) (by kernel_rfl) (by kernel_rfl) (fun _ _ _ h=>h) (by kernel_rfl) (fun wz=>by go_simp) (fun wz hz=>?_) ?_
    ·exact callsIn_wide.2 (C65.out wz (HG.out.trans hz))
    try simp only [Act.put,sA,sB,sC]
    refine takeII lets_wide 17 35 (.pointer (some ⟨pu,0,none⟩)) rfl rfl (by kernel_rfl) (by kernel_rfl) (by kernel_rfl) (by kernel_rfl) (fun _ _ _ h=>h) (by kernel_rfl) (fun wz hz=>?_) ?_
    ·have y0:=hz.cell c0;go_simp
    try simp only [Act.put,sA,sB,sC]
    refine takeII lets_wide 18 36 (.pointer (some ⟨pu,0,none⟩)) rfl rfl (by kernel_rfl) (by kernel_rfl) (by kernel_rfl) (by kernel_rfl) (fun _ _ _ h=>h) (by kernel_rfl) (fun wz hz=>?_) ?_
    ·go_simp
    try simp only [Act.put,sA,sB,sC]
    refine takeII lets_wide 19 37 (.pointer (some ⟨pu,39,none⟩)) rfl rfl (by kernel_rfl) (by kernel_rfl) (by kernel_rfl) (by kernel_rfl) (fun _ _ _ h=>h) (by kernel_rfl) (fun wz hz=>?_) ?_
    ·go_simp
    try simp only [Act.put,sA,sB,sC]
    refine takeII lets_wide 20 38 (.pointer aku) rfl rfl (by kernel_rfl) (by kernel_rfl) (by kernel_rfl) (by kernel_rfl) (fun _ _ _ h=>h) (by kernel_rfl) (fun wz hz=>?_) ?_
    ·have y0:=hz.cell cu39;go_simp
    try simp only [Act.put,sA,sB,sC]
    refine callII lets_wide 21 39 (.int .i64 Lk) 61 #[.pointer aku] rfl rfl (by kernel_rfl) (by kernel_rfl) (by kernel_rfl) (by kernel_rfl) (fun _ _ _ h=>h) (by kernel_rfl) (fun wz=>by go_simp) (fun wz hz=>?_) ?_
    ·exact callsIn_wide.2 (C65u.out wz (HG.out.trans hz))
    try simp only [Act.put,sA,sB,sC]
    refine takeII lets_wide 22 40 (.bool false) rfl rfl (by kernel_rfl) (by kernel_rfl) (by kernel_rfl) (by kernel_rfl) (fun _ _ _ h=>h) (by kernel_rfl) (fun wz hz=>?_) ?_
    ·go_simp
    try simp only [Act.put,sA,sB,sC]
    refine takeII lets_wide 23 41 (.bool false) rfl rfl (by kernel_rfl) (by kernel_rfl) (by kernel_rfl) (by kernel_rfl) (fun _ _ _ h=>h) (by kernel_rfl) (fun wz hz=>?_) ?_
    ·go_simp
    try simp only [Act.put,sA,sB,sC]
    refine takeII lets_wide 24 42 (.bool false) rfl rfl (by kernel_rfl) (by kernel_rfl) (by kernel_rfl) (by kernel_rfl) (fun _ _ _ h=>h) (by kernel_rfl) (fun wz hz=>?_) ?_
    ·rfl
    try simp only [Act.put,sA,sB,sC]
    refine takeII lets_wide 25 43 (.pointer (some ⟨p,0,none⟩)) rfl rfl (by kernel_rfl) (by kernel_rfl) (by kernel_rfl) (by kernel_rfl) (fun _ _ _ h=>h) (by kernel_rfl) (fun wz hz=>?_) ?_
    ·rfl
    try simp only [Act.put,sA,sB,sC]
    refine callII lets_wide 26 44 (.int .i64 Sk) 62 #[.pointer (some ⟨p,0,none⟩)] rfl rfl (by kernel_rfl) (by kernel_rfl) (by kernel_rfl) (by kernel_rfl) (fun _ _ _ h=>h) (by kernel_rfl) (fun wz=>by go_simp) (fun wz hz=>?_) ?_
    ·exact callsIn_wide.2 (C53.out wz (HG.out.trans hz))
    try simp only [Act.put,sA,sB,sC]
    refine takeII lets_wide 27 45 (.pointer (some ⟨pu,0,none⟩)) rfl rfl (by kernel_rfl) (by kernel_rfl) (by kernel_rfl) (by kernel_rfl) (fun _ _ _ h=>h) (by kernel_rfl) (fun wz hz=>?_) ?_
    ·have y0:=hz.cell c0;go_simp
    try simp only [Act.put,sA,sB,sC]
    refine callII lets_wide 28 46 (.int .i64 Sk) 62 #[.pointer (some ⟨pu,0,none⟩)] rfl rfl (by kernel_rfl) (by kernel_rfl) (by kernel_rfl) (by kernel_rfl) (fun _ _ _ h=>h) (by kernel_rfl) (fun wz=>by go_simp) (fun wz hz=>?_) ?_
    ·exact callsIn_wide.2 (C53u.out wz (HG.out.trans hz))
    try simp only [Act.put,sA,sB,sC]
    refine takeII lets_wide 29 47 (.bool false) rfl rfl (by kernel_rfl) (by kernel_rfl) (by kernel_rfl) (by kernel_rfl) (fun _ _ _ h=>h) (by kernel_rfl) (fun wz hz=>?_) ?_
    ·go_simp
    try simp only [Act.put,sA,sB,sC]
    refine takeII lets_wide 30 48 (.bool false) rfl rfl (by kernel_rfl) (by kernel_rfl) (by kernel_rfl) (by kernel_rfl) (fun _ _ _ h=>h) (by kernel_rfl) (fun wz hz=>?_) ?_
    ·go_simp
    try simp only [Act.put,sA,sB,sC]
    refine doneII (by kernel_rfl) (fun W9 hg9=>?_)
    have H9:=hid (⟨HG.out.trans hg9,HS.out.grow hg9⟩:G w W9∧SV W9 B (some ⟨pu,0,none⟩) o false)
    have HBF:Hid (b=sameF o k.flat ku.flat∧k.flat.len=ku.flat.len):=by
     have h:=HBB.out
     rw [HR0.out,Bool.true_and] at h
     exact ⟨h,HL.out.1.trans HL.out.2.1.symm⟩
    clear hg9 c0 c1 hne hne2 CV C65 C65u C53 C53u HLX
    gi_wp2_with (first
     | (gi_at_call 55;refine (callsIn_wide.2 (childrenF_any p _)).mono ?_;rintro e w' ⟨rfl,rfl⟩)
     | (refine ⟨trivial,?_⟩;gi_at_call 55;refine (callsIn_wide.2 (childrenF_any p _)).mono ?_;rintro e w' ⟨rfl,rfl⟩))
    refine step_worldIn (fun W5=>G w W5∧SV W5 B (some ⟨pu,0,none⟩) o false∧W5.cell? ⟨W9.heap.size,0,none⟩=some (.pointer (some ⟨p,0,none⟩))∧W9.heap.size<W5.heap.size) ⟨H9.out.1.trans (G.alloc _ _),H9.out.2.grow (G.alloc _ _),lies_cell (lies_new _ _ _) 0 _ rfl,by simp⟩ fun W5 H5=>?_
    obtain ⟨hG5,hS5,hc5,hs5⟩:=H5
    generalize W9.heap.size=Bt at *
    have hle5:w.heap.size≤W5.heap.size:=hG5.size
    refine wpIn_rangeFunc_ownF rfl (by omega) (gf:=89) (lb:=#[.pointer (some ⟨Bt,0,none⟩)]) rfl trivial (enters_of Tryz.func89 (by kernel_rfl) rfl)
     (children_stopsP 2 w (Gd w k.flat.size) Bt p v m k W5 hs5 hc5 HT.out.1 (Gd.all HT.out.2.1 HT.out.2.2.2.1 (Nat.le_refl _)) hG5)
     (fun h k=>h.trans k) (belowK_b hle5) (Below.refl _ _) (fun _=>rfl)
     (fun pre W=>SV W B (some ⟨pu,0,none⟩) o false∧G w W∧allF o (kidsF (kidsP pre)) ku.flat=true) (fun c pre W=>SV W B (some ⟨pu,0,none⟩) o false∧G w W∧(c=.ret∧allF o (kidsF (kidsP pre)) ku.flat=false)) (SV.own _ hle5) (fun c=>SV.own _ hle5) ⟨hS5,hG5,rfl⟩
     ?a1 ?assign ?body ?done ?stop
    case assign=>
     intro l x W K hK
     gi_wp2
     exact hK
    case stop=>
     rintro D c pre W hD hpre ⟨hS,hG,rfl,hall⟩ hK
     have hbf:b=false:=by
      rw [HBF.out.1,← allF_eq HT.out.2.2.2.1 HU.out.2.2.2.1 HBF.out.2,← kidsF_items k]
      obtain ⟨t,ht⟩:=hpre
      rw [← ht,kidsF_app,allF_app,hall]
      rfl
     have hne:B+2≠D:=fun e=>by
      have h1:=hS.2.2
      rw [e,hK] at h1
      cases h1
     have HF:=hid (⟨hS,hG,hK,hbf,hD⟩:_∧_∧_∧_∧_)
     clear hS hG hK hall hpre hbf hD
     gi_wp2_with fail
     obtain ⟨hS,hG,hK,hbf,hD⟩:=HF.out
     refine ⟨by simp,.inl ⟨_,_,rfl,run_takeDeferred hK,?_⟩⟩
     refine ⟨_,results_bool (p:=6) rfl _ _ (B+2) false rfl (by rw [← hS.c2];exact World.cell?_of_block (World.putObj_heap_other hne)),by rw [hbf],?_⟩
     exact Below.trans (B:=w.heap.size) hG ⟨rfl,rfl,rfl,by simp,fun k hk=>World.putObj_heap_other (by omega)⟩
    case body=>
     rintro l pre x W ⟨hS,hG,hall⟩ hlen
     obtain ⟨⟨xnm,xp,xv,xm,xk⟩,hxT,hxG⟩:=x
     simp only at hxT
     obtain ⟨af,haf⟩:∃ af,addrOf (ku.find xnm)=af:=⟨_,rfl⟩
     obtain ⟨r1,hr1⟩:∃ r1,sameK o (xv,xm,xk) (subK ku xnm)=r1:=⟨_,rfl⟩
     have CF:Hid (∀ W',G w W'→Calls Tryz.prog 63 #[.pointer aku,.string xnm] W' fun e w'=>e=.returned (.pointer af)∧G W' w'):=fun W' hW=>by
      have:=Calls.grown (find_any ku (.pointer aku) xnm W' (HU.out.1.grow hW))
      rw [ptrOf_addr,haf] at this
      exact this
     have CS:Hid (∀ W',G w W'→Calls Tryz.prog 21 #[.pointer (some ⟨xp,0,none⟩),.pointer af,.bool o] W' fun e w'=>e=.returned (.bool r1)∧G W' w'):=fun W' hW=>by
      rw [← hr1]
      exact HIH.out xk hxG.size o xp xv xm af (subK ku xnm) W' (hxT.grow hW) (K.plain_grow hW hxG.plain) (hxG.tr.grow hW) hxG.rises (by have h1:=hxG.size;have h2:=HT.out.2.2.2.2;simp only at h1;omega) (haf ▸ (UT.find HU.out.1 HU.out.2.1 HU.out.2.2.2.1 HU.out.2.2.2.2 xnm).grow hW)
     have HALL:Hid (allF o (kidsF (kidsP (pre++[(⟨⟨xnm,xp,xv,xm,xk⟩,hxT,hxG⟩:KidIP w (Gd w k.flat.size))]))) ku.flat=r1):=by
      rw [show kidsP (pre++[(⟨⟨xnm,xp,xv,xm,xk⟩,hxT,hxG⟩:KidIP w (Gd w k.flat.size))])=kidsP pre++[⟨xnm,xp,xv,xm,xk⟩] by simp [kidsP],kidsF_app,allF_app,hall,Bool.true_and]
      show ((match ku.flat.get xnm with | none=>false | some s=>sameT o (xv,xm,xk.flat) s)&&allF o .nil ku.flat)=r1
      rw [allF,Bool.and_true,← hr1,sameK_get HU.out.2.2.2.1]
      rfl
     have HSW:=hid (⟨hS,hG⟩:_∧_)
     clear hS hG hall haf hr1
     gi_wp2_with fail
     refine wp_region_II ?_
     have HS2:Hid (SV W.drew B (some ⟨pu,0,none⟩) o false∧G w W.drew∧G W W.drew):=⟨HSW.out.1.grow (G.drew W),HSW.out.2.trans (G.drew W),G.drew W⟩
     generalize W.drew=W6 at *
     have d0:=HS2.out.1.c0
     have d1:=HS2.out.1.c1
     have d39:=HS2.out.2.1.cell HC39.out
     refine takeII lets_round 0 53 (.pointer (some ⟨xp,0,none⟩)) rfl rfl (by kernel_rfl) (by kernel_rfl) (by kernel_rfl) (by kernel_rfl) (fun _ _ _ h=>h) (by kernel_rfl) (fun wz hz=>?_) ?_
     ·rfl
     try simp only [Act.put,sA,sB,sC]
     refine takeII lets_round 1 54 (.pointer (some ⟨pu,0,none⟩)) rfl rfl (by kernel_rfl) (by kernel_rfl) (by kernel_rfl) (by kernel_rfl) (fun _ _ _ h=>h) (by kernel_rfl) (fun wz hz=>?_) ?_
     ·have y0:=hz.cell d0;go_simp
     try simp only [Act.put,sA,sB,sC]
     refine takeII lets_round 2 55 (.pointer (some ⟨pu,0,none⟩)) rfl rfl (by kernel_rfl) (by kernel_rfl) (by kernel_rfl) (by kernel_rfl) (fun _ _ _ h=>h) (by kernel_rfl) (fun wz hz=>?_) ?_
     ·go_simp
     try simp only [Act.put,sA,sB,sC]
     refine takeII lets_round 3 56 (.pointer (some ⟨pu,39,none⟩)) rfl rfl (by kernel_rfl) (by kernel_rfl) (by kernel_rfl) (by kernel_rfl) (fun _ _ _ h=>h) (by kernel_rfl) (fun wz hz=>?_) ?_
     ·go_simp
     try simp only [Act.put,sA,sB,sC]
     refine takeII lets_round 4 57 (.pointer aku) rfl rfl (by kernel_rfl) (by kernel_rfl) (by kernel_rfl) (by kernel_rfl) (fun _ _ _ h=>h) (by kernel_rfl) (fun wz hz=>?_) ?_
     ·have y0:=hz.cell d39;go_simp
     try simp only [Act.put,sA,sB,sC]
     refine takeII lets_round 5 58 (.string xnm) rfl rfl (by kernel_rfl) (by kernel_rfl) (by kernel_rfl) (by kernel_rfl) (fun _ _ _ h=>h) (by kernel_rfl) (fun wz hz=>?_) ?_
     ·rfl
     try simp only [Act.put,sA,sB,sC]
     refine callII lets_round 6 59 (.pointer af) 63 #[.pointer aku,.string xnm] rfl rfl (by kernel_rfl) (by kernel_rfl) (by kernel_rfl) (by kernel_rfl) (fun _ _ _ h=>h) (by kernel_rfl) (fun wz=>by go_simp) (fun wz hz=>?_) ?_
     ·exact CallsIn.inRound l (callsIn_wide.2 (CF.out wz (HS2.out.2.1.trans hz)))
     try simp only [Act.put,sA,sB,sC]
     refine takeII lets_round 7 60 (.bool o) rfl rfl (by kernel_rfl) (by kernel_rfl) (by kernel_rfl) (by kernel_rfl) (fun _ _ _ h=>h) (by kernel_rfl) (fun wz hz=>?_) ?_
     ·have y0:=hz.cell d1;go_simp
     try simp only [Act.put,sA,sB,sC]
     refine callII lets_round 8 61 (.bool r1) 21 #[.pointer (some ⟨xp,0,none⟩),.pointer af,.bool o] rfl rfl (by kernel_rfl) (by kernel_rfl) (by kernel_rfl) (by kernel_rfl) (fun _ _ _ h=>h) (by kernel_rfl) (fun wz=>by go_simp) (fun wz hz=>?_) ?_
     ·exact CallsIn.inRound l (callsIn_wide.2 (CS.out wz (HS2.out.2.1.trans hz)))
     try simp only [Act.put,sA,sB,sC]
     refine takeII lets_round 9 62 (.bool (!r1)) rfl rfl (by kernel_rfl) (by kernel_rfl) (by kernel_rfl) (by kernel_rfl) (fun _ _ _ h=>h) (by kernel_rfl) (fun wz hz=>?_) ?_
     ·go_simp
     try simp only [Act.put,sA,sB,sC]
     refine doneII (by kernel_rfl) (fun W9 hg9=>?_)
     have H9b:=hid (⟨HS2.out.1.grow hg9,HS2.out.2.1.trans hg9,HS2.out.2.2.trans hg9⟩:SV W9 B (some ⟨pu,0,none⟩) o false∧G w W9∧G W W9)
     clear hg9 d0 d1 d39
     cases r1 with
     | true=>
      gi_wp2_with fail
      exact ⟨keeps_of H9b.out.2.2,H9b.out.2.2.mono (by have:=HSW.out.2.size;exact this),H9b.out.1,H9b.out.2.1,HALL.out⟩
     | false=>
      have e2:=H9b.out.1.c2
      have f2:=H9b.out.1.f2
      gi_wp2_with fail
      have hBw:=HB.out
      exact ⟨keeps_set H9b.out.2.2 H9b.out.1 _,H9b.out.1.set false,Below.setCell (p:=⟨B+2,0,none⟩) H9b.out.2.1 (by show w.heap.size≤B+2;omega) _,rfl,HALL.out⟩
    case done=>
     rintro D ys W hD hys ⟨hS,hG,hall⟩ hK
     have hys1:kidsP ys=k.items:=hys
     have hbt:b=true:=by
      rw [HBF.out.1,← allF_eq HT.out.2.2.2.1 HU.out.2.2.2.1 HBF.out.2,← kidsF_items k,← hys1]
      exact hall
     have hne:B+2≠D:=fun e=>by
      have h1:=hS.2.2
      rw [e,hK] at h1
      cases h1
     have e2:=hS.c2
     have f2:=hS.f2
     have HF:=hid (⟨hS,hG,hK,hbt,hD⟩:_∧_∧_∧_∧_)
     clear hS hG hK hall hys hys1 hbt hD
     gi_wp2_with fail
     obtain ⟨hS,hG,hK,hbt,hD⟩:=HF.out
     have hBw:=HB.out
     have hK4:(W.setCell ⟨B+2,0,none⟩ (.bool true)).heap[D]?=some (.deferred (some [])):=(Below.heap_setCell _ _ _ D (Ne.symm hne)).trans hK
     refine ⟨by simp,.inl ⟨_,_,rfl,run_takeDeferred hK4,?_⟩⟩
     refine ⟨_,results_bool (p:=6) rfl _ _ (B+2) true rfl (by rw [← (hS.set true).c2];exact World.cell?_of_block (World.putObj_heap_other hne)),by rw [hbt],?_⟩
     exact Below.trans (B:=w.heap.size) (Below.setCell (p:=⟨B+2,0,none⟩) hG (by show w.heap.size≤B+2;omega) _) ⟨rfl,rfl,rfl,by simp,fun k hk=>World.putObj_heap_other (by omega)⟩
   ·have HF:Hid (b=false):=by
     have h:=HBB.out
     rw [HR0.out,Bool.true_and] at h
     rw [h]
     cases hs:sameF o k.flat ku.flat with
     | false=>rfl
     | true=>exact absurd (by have h1:=(sameF_len hs).2;have h2:=HL.out.2.2.1;have h3:=HL.out.2.2.2;omega) hz'
    have hne:((Lk:Int) != (Lk:Int))=false:=by simp
    have hne2:((Sk:Int) != (Su:Int))=true:=by simp;omega
    refine takeII lets_wide 0 18 (.pointer (some ⟨p,0,none⟩)) rfl rfl (by kernel_rfl) (by kernel_rfl) (by kernel_rfl) (by kernel_rfl) (fun _ _ _ h=>h) (by kernel_rfl) (fun wz hz=>?_) ?_
    ·rfl
    try simp only [Act.put,sA,sB,sC]
    refine takeII lets_wide 1 19 (.pointer (some ⟨p,0,none⟩)) rfl rfl (by kernel_rfl) (by kernel_rfl) (by kernel_rfl) (by kernel_rfl) (fun _ _ _ h=>h) (by kernel_rfl) (fun wz hz=>?_) ?_
    ·go_simp
    try simp only [Act.put,sA,sB,sC]
    refine takeII lets_wide 2 20 (.pointer (some ⟨p,0,none⟩)) rfl rfl (by kernel_rfl) (by kernel_rfl) (by kernel_rfl) (by kernel_rfl) (fun _ _ _ h=>h) (by kernel_rfl) (fun wz hz=>?_) ?_
    ·go_simp
    try simp only [Act.put,sA,sB,sC]
    refine takeII lets_wide 3 21 (.agg X) rfl rfl (by kernel_rfl) (by kernel_rfl) (by kernel_rfl) (by kernel_rfl) (fun _ _ _ h=>h) (by kernel_rfl) (fun wz hz=>?_) ?_
    ·exact exec_load24 _ rfl p 0 rfl X HX.out.1 (hz.lies HLX.out.1)
    try simp only [Act.put,sA,sB,sC]
    refine takeII lets_wide 4 22 (.pointer (some ⟨pu,0,none⟩)) rfl rfl (by kernel_rfl) (by kernel_rfl) (by kernel_rfl) (by kernel_rfl) (fun _ _ _ h=>h) (by kernel_rfl) (fun wz hz=>?_) ?_
    ·have y0:=hz.cell c0;go_simp
    try simp only [Act.put,sA,sB,sC]
    refine takeII lets_wide 5 23 (.pointer (some ⟨pu,0,none⟩)) rfl rfl (by kernel_rfl) (by kernel_rfl) (by kernel_rfl) (by kernel_rfl) (fun _ _ _ h=>h) (by kernel_rfl) (fun wz hz=>?_) ?_
    ·go_simp
    try simp only [Act.put,sA,sB,sC]
    refine takeII lets_wide 6 24 (.pointer (some ⟨pu,0,none⟩)) rfl rfl (by kernel_rfl) (by kernel_rfl) (by kernel_rfl) (by kernel_rfl) (fun _ _ _ h=>h) (by kernel_rfl) (fun wz hz=>?_) ?_
    ·go_simp
    try simp only [Act.put,sA,sB,sC]
    refine takeII lets_wide 7 25 (.agg Y) rfl rfl (by kernel_rfl) (by kernel_rfl) (by kernel_rfl) (by kernel_rfl) (fun _ _ _ h=>h) (by kernel_rfl) (fun wz hz=>?_) ?_
    ·exact exec_load24 _ rfl pu 0 rfl Y HX.out.2 (hz.lies HLX.out.2)
    try simp only [Act.put,sA,sB,sC]
    refine takeII lets_wide 8 26 (.bool o) rfl rfl (by kernel_rfl) (by kernel_rfl) (by kernel_rfl) (by kernel_rfl) (fun _ _ _ h=>h) (by kernel_rfl) (fun wz hz=>?_) ?_
    ·have y0:=hz.cell c1;go_simp
    try simp only [Act.put,sA,sB,sC]
    refine callII lets_wide 9 27 (.bool true) 60 #[.agg X,.agg Y,.bool o] rfl rfl (by kernel_rfl) (by kernel_rfl) (by kernel_rfl) (by kernel_rfl) (fun _ _ _ h=>h) (by kernel_rfl) (fun wz=>by go_simp) (fun wz hz=>?_) ?_
    ·exact callsIn_wide.2 (CV.out wz)
    try simp only [Act.put,sA,sB,sC]
    refine takeII lets_wide 10 28 (.bool false) rfl rfl (by kernel_rfl) (by kernel_rfl) (by kernel_rfl) (by kernel_rfl) (fun _ _ _ h=>h) (by kernel_rfl) (fun wz hz=>?_) ?_
    ·go_simp
    try simp only [Act.put,sA,sB,sC]
    refine takeII lets_wide 11 29 (.bool false) rfl rfl (by kernel_rfl) (by kernel_rfl) (by kernel_rfl) (by kernel_rfl) (fun _ _ _ h=>h) (by kernel_rfl) (fun wz hz=>?_) ?_
    ·rfl
    try simp only [Act.put,sA,sB,sC]
    refine takeII lets_wide 12 30 (.pointer (some ⟨p,0,none⟩)) rfl rfl (by kernel_rfl) (by kernel_rfl) (by kernel_rfl) (by kernel_rfl) (fun _ _ _ h=>h) (by kernel_rfl) (fun wz hz=>?_) ?_
    ·rfl
    try simp only [Act.put,sA,sB,sC]
    refine takeII lets_wide 13 31 (.pointer (some ⟨p,0,none⟩)) rfl rfl (by kernel_rfl) (by kernel_rfl) (by kernel_rfl) (by kernel_rfl) (fun _ _ _ h=>h) (by kernel_rfl) (fun wz hz=>?_) ?_
    ·go_simp
    try simp only [Act.put,sA,sB,sC]
    refine takeII lets_wide 14 32 (.pointer (some ⟨p,39,none⟩)) rfl rfl (by kernel_rfl) (by kernel_rfl) (by kernel_rfl) (by kernel_rfl) (fun _ _ _ h=>h) (by kernel_rfl) (fun wz hz=>?_) ?_
    ·go_simp
    try simp only [Act.put,sA,sB,sC]
    refine takeII lets_wide 15 33 (.pointer ak) rfl rfl (by kernel_rfl) (by kernel_rfl) (by kernel_rfl) (by kernel_rfl) (fun _ _ _ h=>h) (by kernel_rfl) (fun wz hz=>?_) ?_
    ·have y0:=hz.cell c39;go_simp
    try simp only [Act.put,sA,sB,sC]
    refine callII lets_wide 16 34 (.int .i64 Lk) 61 #[.pointer ak] rfl rfl (by kernel_rfl) (by kernel_rfl) (by kernel_rfl) (by kernel_rfl) (fun _ _ _ h=>h) (by kernel_rfl) (fun wz=>by go_simp) (fun wz hz=>?_) ?_
    ·exact callsIn_wide.2 (C65.out wz (HG.out.trans hz))
    try simp only [Act.put,sA,sB,sC]
    refine takeII lets_wide 17 35 (.pointer (some ⟨pu,0,none⟩)) rfl rfl (by kernel_rfl) (by kernel_rfl) (by kernel_rfl) (by kernel_rfl) (fun _ _ _ h=>h) (by kernel_rfl) (fun wz hz=>?_) ?_
    ·have y0:=hz.cell c0;go_simp
    try simp only [Act.put,sA,sB,sC]
    refine takeII lets_wide 18 36 (.pointer (some ⟨pu,0,none⟩)) rfl rfl (by kernel_rfl) (by kernel_rfl) (by kernel_rfl) (by kernel_rfl) (fun _ _ _ h=>h) (by kernel_rfl) (fun wz hz=>?_) ?_
    ·go_simp
    try simp only [Act.put,sA,sB,sC]
    refine takeII lets_wide 19 37 (.pointer (some ⟨pu,39,none⟩)) rfl rfl (by kernel_rfl) (by kernel_rfl) (by kernel_rfl) (by kernel_rfl) (fun _ _ _ h=>h) (by kernel_rfl) (fun wz hz=>?_) ?_
    ·go_simp
    try simp only [Act.put,sA,sB,sC]
    refine takeII lets_wide 20 38 (.pointer aku) rfl rfl (by kernel_rfl) (by kernel_rfl) (by kernel_rfl) (by kernel_rfl) (fun _ _ _ h=>h) (by kernel_rfl) (fun wz hz=>?_) ?_
    ·have y0:=hz.cell cu39;go_simp
    try simp only [Act.put,sA,sB,sC]
    refine callII lets_wide 21 39 (.int .i64 Lk) 61 #[.pointer aku] rfl rfl (by kernel_rfl) (by kernel_rfl) (by kernel_rfl) (by kernel_rfl) (fun _ _ _ h=>h) (by kernel_rfl) (fun wz=>by go_simp) (fun wz hz=>?_) ?_
    ·exact callsIn_wide.2 (C65u.out wz (HG.out.trans hz))
    try simp only [Act.put,sA,sB,sC]
    refine takeII lets_wide 22 40 (.bool false) rfl rfl (by kernel_rfl) (by kernel_rfl) (by kernel_rfl) (by kernel_rfl) (fun _ _ _ h=>h) (by kernel_rfl) (fun wz hz=>?_) ?_
    ·go_simp
    try simp only [Act.put,sA,sB,sC]
    refine takeII lets_wide 23 41 (.bool false) rfl rfl (by kernel_rfl) (by kernel_rfl) (by kernel_rfl) (by kernel_rfl) (fun _ _ _ h=>h) (by kernel_rfl) (fun wz hz=>?_) ?_
    ·go_simp
    try simp only [Act.put,sA,sB,sC]
    refine takeII lets_wide 24 42 (.bool false) rfl rfl (by kernel_rfl) (by kernel_rfl) (by kernel_rfl) (by kernel_rfl) (fun _ _ _ h=>h) (by kernel_rfl) (fun wz hz=>?_) ?_
    ·rfl
    try simp only [Act.put,sA,sB,sC]
    refine takeII lets_wide 25 43 (.pointer (some ⟨p,0,none⟩)) rfl rfl (by kernel_rfl) (by kernel_rfl) (by kernel_rfl) (by kernel_rfl) (fun _ _ _ h=>h) (by kernel_rfl) (fun wz hz=>?_) ?_
    ·rfl
    try simp only [Act.put,sA,sB,sC]
    refine callII lets_wide 26 44 (.int .i64 Sk) 62 #[.pointer (some ⟨p,0,none⟩)] rfl rfl (by kernel_rfl) (by kernel_rfl) (by kernel_rfl) (by kernel_rfl) (fun _ _ _ h=>h) (by kernel_rfl) (fun wz=>by go_simp) (fun wz hz=>?_) ?_
    ·exact callsIn_wide.2 (C53.out wz (HG.out.trans hz))
    try simp only [Act.put,sA,sB,sC]
    refine takeII lets_wide 27 45 (.pointer (some ⟨pu,0,none⟩)) rfl rfl (by kernel_rfl) (by kernel_rfl) (by kernel_rfl) (by kernel_rfl) (fun _ _ _ h=>h) (by kernel_rfl) (fun wz hz=>?_) ?_
    ·have y0:=hz.cell c0;go_simp
    try simp only [Act.put,sA,sB,sC]
    refine callII lets_wide 28 46 (.int .i64 Su) 62 #[.pointer (some ⟨pu,0,none⟩)] rfl rfl (by kernel_rfl) (by kernel_rfl) (by kernel_rfl) (by kernel_rfl) (fun _ _ _ h=>h) (by kernel_rfl) (fun wz=>by go_simp) (fun wz hz=>?_) ?_
    ·exact callsIn_wide.2 (C53u.out wz (HG.out.trans hz))
    try simp only [Act.put,sA,sB,sC]
    refine takeII lets_wide 29 47 (.bool true) rfl rfl (by kernel_rfl) (by kernel_rfl) (by kernel_rfl) (by kernel_rfl) (fun _ _ _ h=>h) (by kernel_rfl) (fun wz hz=>?_) ?_
    ·go_simp
    try simp only [Act.put,sA,sB,sC]
    refine takeII lets_wide 30 48 (.bool true) rfl rfl (by kernel_rfl) (by kernel_rfl) (by kernel_rfl) (by kernel_rfl) (fun _ _ _ h=>h) (by kernel_rfl) (fun wz hz=>?_) ?_
    ·go_simp
    try simp only [Act.put,sA,sB,sC]
    refine doneII (by kernel_rfl) (fun W9 hg9=>?_)
    have H9:=hid (⟨HG.out.trans hg9,HS.out.grow hg9⟩:G w W9∧SV W9 B (some ⟨pu,0,none⟩) o false)
    have c2:=H9.out.2.c2
    have f2:=H9.out.2.f2
    clear hg9 c0 c1
    gi_wp2_with fail
    exact FALSE _ W9 H9.out.1 H9.out.2 HF.out rfl
  ·have HF:Hid (b=false):=by
    have h:=HBB.out
    rw [HR0.out,Bool.true_and] at h
    rw [h]
    cases hs:sameF o k.flat ku.flat with
    | false=>rfl
    | true=>exact absurd ((HL.out.1.symm.trans (sameF_len hs).1).trans HL.out.2.1) hl
   have hne:((Lk:Int) != (Lu:Int))=true:=by simp;omega
   refine takeII lets_wide 0 18 (.pointer (some ⟨p,0,none⟩)) rfl rfl (by kernel_rfl) (by kernel_rfl) (by kernel_rfl) (by kernel_rfl) (fun _ _ _ h=>h) (by kernel_rfl) (fun wz hz=>?_) ?_
   ·rfl
   try simp only [Act.put,sA,sB,sC]
   refine takeII lets_wide 1 19 (.pointer (some ⟨p,0,none⟩)) rfl rfl (by kernel_rfl) (by kernel_rfl) (by kernel_rfl) (by kernel_rfl) (fun _ _ _ h=>h) (by kernel_rfl) (fun wz hz=>?_) ?_
   ·go_simp
   try simp only [Act.put,sA,sB,sC]
   refine takeII lets_wide 2 20 (.pointer (some ⟨p,0,none⟩)) rfl rfl (by kernel_rfl) (by kernel_rfl) (by kernel_rfl) (by kernel_rfl) (fun _ _ _ h=>h) (by kernel_rfl) (fun wz hz=>?_) ?_
   ·go_simp
   try simp only [Act.put,sA,sB,sC]
   refine takeII lets_wide 3 21 (.agg X) rfl rfl (by kernel_rfl) (by kernel_rfl) (by kernel_rfl) (by kernel_rfl) (fun _ _ _ h=>h) (by kernel_rfl) (fun wz hz=>?_) ?_
   ·exact exec_load24 _ rfl p 0 rfl X HX.out.1 (hz.lies HLX.out.1)
   try simp only [Act.put,sA,sB,sC]
   refine takeII lets_wide 4 22 (.pointer (some ⟨pu,0,none⟩)) rfl rfl (by kernel_rfl) (by kernel_rfl) (by kernel_rfl) (by kernel_rfl) (fun _ _ _ h=>h) (by kernel_rfl) (fun wz hz=>?_) ?_
   ·have y0:=hz.cell c0;go_simp
   try simp only [Act.put,sA,sB,sC]
   refine takeII lets_wide 5 23 (.pointer (some ⟨pu,0,none⟩)) rfl rfl (by kernel_rfl) (by kernel_rfl) (by kernel_rfl) (by kernel_rfl) (fun _ _ _ h=>h) (by kernel_rfl) (fun wz hz=>?_) ?_
   ·go_simp
   try simp only [Act.put,sA,sB,sC]
   refine takeII lets_wide 6 24 (.pointer (some ⟨pu,0,none⟩)) rfl rfl (by kernel_rfl) (by kernel_rfl) (by kernel_rfl) (by kernel_rfl) (fun _ _ _ h=>h) (by kernel_rfl) (fun wz hz=>?_) ?_
   ·go_simp
   try simp only [Act.put,sA,sB,sC]
   refine takeII lets_wide 7 25 (.agg Y) rfl rfl (by kernel_rfl) (by kernel_rfl) (by kernel_rfl) (by kernel_rfl) (fun _ _ _ h=>h) (by kernel_rfl) (fun wz hz=>?_) ?_
   ·exact exec_load24 _ rfl pu 0 rfl Y HX.out.2 (hz.lies HLX.out.2)
   try simp only [Act.put,sA,sB,sC]
   refine takeII lets_wide 8 26 (.bool o) rfl rfl (by kernel_rfl) (by kernel_rfl) (by kernel_rfl) (by kernel_rfl) (fun _ _ _ h=>h) (by kernel_rfl) (fun wz hz=>?_) ?_
   ·have y0:=hz.cell c1;go_simp
   try simp only [Act.put,sA,sB,sC]
   refine callII lets_wide 9 27 (.bool true) 60 #[.agg X,.agg Y,.bool o] rfl rfl (by kernel_rfl) (by kernel_rfl) (by kernel_rfl) (by kernel_rfl) (fun _ _ _ h=>h) (by kernel_rfl) (fun wz=>by go_simp) (fun wz hz=>?_) ?_
   ·exact callsIn_wide.2 (CV.out wz)
   try simp only [Act.put,sA,sB,sC]
   refine takeII lets_wide 10 28 (.bool false) rfl rfl (by kernel_rfl) (by kernel_rfl) (by kernel_rfl) (by kernel_rfl) (fun _ _ _ h=>h) (by kernel_rfl) (fun wz hz=>?_) ?_
   ·go_simp
   try simp only [Act.put,sA,sB,sC]
   refine takeII lets_wide 11 29 (.bool false) rfl rfl (by kernel_rfl) (by kernel_rfl) (by kernel_rfl) (by kernel_rfl) (fun _ _ _ h=>h) (by kernel_rfl) (fun wz hz=>?_) ?_
   ·rfl
   try simp only [Act.put,sA,sB,sC]
   refine takeII lets_wide 12 30 (.pointer (some ⟨p,0,none⟩)) rfl rfl (by kernel_rfl) (by kernel_rfl) (by kernel_rfl) (by kernel_rfl) (fun _ _ _ h=>h) (by kernel_rfl) (fun wz hz=>?_) ?_
   ·rfl
   try simp only [Act.put,sA,sB,sC]
   refine takeII lets_wide 13 31 (.pointer (some ⟨p,0,none⟩)) rfl rfl (by kernel_rfl) (by kernel_rfl) (by kernel_rfl) (by kernel_rfl) (fun _ _ _ h=>h) (by kernel_rfl) (fun wz hz=>?_) ?_
   ·go_simp
   try simp only [Act.put,sA,sB,sC]
   refine takeII lets_wide 14 32 (.pointer (some ⟨p,39,none⟩)) rfl rfl (by kernel_rfl) (by kernel_rfl) (by kernel_rfl) (by kernel_rfl) (fun _ _ _ h=>h) (by kernel_rfl) (fun wz hz=>?_) ?_
   ·go_simp
   try simp only [Act.put,sA,sB,sC]
   refine takeII lets_wide 15 33 (.pointer ak) rfl rfl (by kernel_rfl) (by kernel_rfl) (by kernel_rfl) (by kernel_rfl) (fun _ _ _ h=>h) (by kernel_rfl) (fun wz hz=>?_) ?_
   ·have y0:=hz.cell c39;go_simp
   try simp only [Act.put,sA,sB,sC]
   refine callII lets_wide 16 34 (.int .i64 Lk) 61 #[.pointer ak] rfl rfl (by kernel_rfl) (by kernel_rfl) (by kernel_rfl) (by kernel_rfl) (fun _ _ _ h=>h) (by kernel_rfl) (fun wz=>by go_simp) (fun wz hz=>?_) ?_
   ·exact callsIn_wide.2 (C65.out wz (HG.out.trans hz))
   try simp only [Act.put,sA,sB,sC]
   refine takeII lets_wide 17 35 (.pointer (some ⟨pu,0,none⟩)) rfl rfl (by kernel_rfl) (by kernel_rfl) (by kernel_rfl) (by kernel_rfl) (fun _ _ _ h=>h) (by kernel_rfl) (fun wz hz=>?_) ?_
   ·have y0:=hz.cell c0;go_simp
   try simp only [Act.put,sA,sB,sC]
   refine takeII lets_wide 18 36 (.pointer (some ⟨pu,0,none⟩)) rfl rfl (by kernel_rfl) (by kernel_rfl) (by kernel_rfl) (by kernel_rfl) (fun _ _ _ h=>h) (by kernel_rfl) (fun wz hz=>?_) ?_
   ·go_simp
   try simp only [Act.put,sA,sB,sC]
   refine takeII lets_wide 19 37 (.pointer (some ⟨pu,39,none⟩)) rfl rfl (by kernel_rfl) (by kernel_rfl) (by kernel_rfl) (by kernel_rfl) (fun _ _ _ h=>h) (by kernel_rfl) (fun wz hz=>?_) ?_
   ·go_simp
   try simp only [Act.put,sA,sB,sC]
   refine takeII lets_wide 20 38 (.pointer aku) rfl rfl (by kernel_rfl) (by kernel_rfl) (by kernel_rfl) (by kernel_rfl) (fun _ _ _ h=>h) (by kernel_rfl) (fun wz hz=>?_) ?_
   ·have y0:=hz.cell cu39;go_simp
   try simp only [Act.put,sA,sB,sC]
   refine callII lets_wide 21 39 (.int .i64 Lu) 61 #[.pointer aku] rfl rfl (by kernel_rfl) (by kernel_rfl) (by kernel_rfl) (by kernel_rfl) (fun _ _ _ h=>h) (by kernel_rfl) (fun wz=>by go_simp) (fun wz hz=>?_) ?_
   ·exact callsIn_wide.2 (C65u.out wz (HG.out.trans hz))
   try simp only [Act.put,sA,sB,sC]
   refine takeII lets_wide 22 40 (.bool true) rfl rfl (by kernel_rfl) (by kernel_rfl) (by kernel_rfl) (by kernel_rfl) (fun _ _ _ h=>h) (by kernel_rfl) (fun wz hz=>?_) ?_
   ·go_simp
   try simp only [Act.put,sA,sB,sC]
   refine takeII lets_wide 23 41 (.bool true) rfl rfl (by kernel_rfl) (by kernel_rfl) (by kernel_rfl) (by kernel_rfl) (fun _ _ _ h=>h) (by kernel_rfl) (fun wz hz=>?_) ?_
   ·go_simp
   try simp only [Act.put,sA,sB,sC]
   refine takeII lets_wide 24 42 (.bool true) rfl rfl (by kernel_rfl) (by kernel_rfl) (by kernel_rfl) (by kernel_rfl) (fun _ _ _ h=>h) (by kernel_rfl) (fun wz hz=>?_) ?_
   ·rfl
   try simp only [Act.put,sA,sB,sC]
   refine skipII lets_wide 25 43 rfl rfl (by kernel_rfl) (by kernel_rfl) (by kernel_rfl) (by kernel_rfl) (fun _ _ _ h=>h) (by kernel_rfl) ?_
   try simp only [Act.put,sA,sB,sC]
   refine skipII lets_wide 26 44 rfl rfl (by kernel_rfl) (by kernel_rfl) (by kernel_rfl) (by kernel_rfl) (fun _ _ _ h=>h) (by kernel_rfl) ?_
   try simp only [Act.put,sA,sB,sC]
   refine skipII lets_wide 27 45 rfl rfl (by kernel_rfl) (by kernel_rfl) (by kernel_rfl) (by kernel_rfl) (fun _ _ _ h=>h) (by kernel_rfl) ?_
   try simp only [Act.put,sA,sB,sC]
   refine skipII lets_wide 28 46 rfl rfl (by kernel_rfl) (by kernel_rfl) (by kernel_rfl) (by kernel_rfl) (fun _ _ _ h=>h) (by kernel_rfl) ?_
   try simp only [Act.put,sA,sB,sC]
   refine skipII lets_wide 29 47 rfl rfl (by kernel_rfl) (by kernel_rfl) (by kernel_rfl) (by kernel_rfl) (fun _ _ _ h=>h) (by kernel_rfl) ?_
   try simp only [Act.put,sA,sB,sC]
   refine takeII lets_wide 30 48 (.bool true) rfl rfl (by kernel_rfl) (by kernel_rfl) (by kernel_rfl) (by kernel_rfl) (fun _ _ _ h=>h) (by kernel_rfl) (fun wz hz=>?_) ?_
   ·go_simp
   try simp only [Act.put,sA,sB,sC]
   refine doneII (by kernel_rfl) (fun W9 hg9=>?_)
   have H9:=hid (⟨HG.out.trans hg9,HS.out.grow hg9⟩:G w W9∧SV W9 B (some ⟨pu,0,none⟩) o false)
   have c2:=H9.out.2.c2
   have f2:=H9.out.2.f2
   clear hg9 c0 c1
   gi_wp2_with fail
   exact FALSE _ W9 H9.out.1 H9.out.2 HF.out rfl
theorem same_any:∀ (Z:Nat) (k:K),k.flat.size<Z→SameOk k:=by
 intro Z
 induction Z with
 | zero=>intro k h;omega
 | succ Z ih=>exact fun k hk=>same_step k fun k' hk'=>ih k' (by omega)
end Go.Proofs.YthfcanpkhjgomaaGreat
