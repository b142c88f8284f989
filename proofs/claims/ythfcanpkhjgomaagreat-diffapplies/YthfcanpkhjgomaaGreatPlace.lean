import Derived.Test.YthfcanpkhjgomaaGreatOwnF
set_option maxRecDepth 100000
set_option maxHeartbeats 1000000
namespace Go.Proofs.YthfcanpkhjgomaaGreat
open Go.RowKit
def leB (nm:ByteArray) (p:ByteArray):Bool:=Op.bytesLess nm.toList p.toList||nm.toList==p.toList
def leP (nm:ByteArray):Option ByteArray→Bool
 | none=>false
 | some p=>leB nm p
def placeE (prev:Option ByteArray) (nm:ByteArray) (lev:Nat):Int:=if 64<lev then 43 else if nameB (tl nm)=false then 30 else if leP nm prev=true then 42 else 0
theorem placeFault_any (a:Option Addr) (N cap k lev:Nat) (g o:Nat) (nm:ByteArray) (prev:Option ByteArray) (w:World) (ha:a=some ⟨g,o,none⟩) (hk:k<N) (hN:N≤9223372036854775807) (hlev:lev≤1000)
  (hs:nm.size≤9223372036854775807) (hn:w.cell? ⟨g,o+k*41,none⟩=some (.string nm)) (hp:(k=0∧prev=none)∨∃ j p,k=j+1∧prev=some p∧w.cell? ⟨g,o+j*41,none⟩=some (.string p)):
  Calls Tryz.prog 132 #[.slice a N cap,.int .i64 k,.int .i64 lev] w fun e w'=>e=.returned (.int .i64 (placeE prev nm lev))∧G w w':=by
 subst ha
 have C:=check_any nm w hs
 have hkI:(k:Int)<(N:Int):=by omega
 obtain ⟨R,hR⟩:∃ R,placeE prev nm lev=R:=⟨_,rfl⟩
 rw [hR]
 have HR:=hid hR
 clear hR
 by_cases h1:64<lev
 ·have h1I:(64:Int)<(lev:Int):=by omega
  have HF:Hid (R=43):=by show _=_;rw [← HR.out,placeE,if_pos h1]
  clear h1
  go_enter Tryz.func132,Tryz.ntmps132
  go_wp2_with fail
  go_ret
  exact ⟨by rw [HF.out];rfl,G.refl w⟩
 ·have h1I:¬ (64:Int)<(lev:Int):=by omega
  obtain ⟨b,hb⟩:∃ b,nameB (tl nm)=b:=⟨_,rfl⟩
  rw [hb] at C
  have HB:=hid hb
  clear hb
  cases b with
  | false=>
   have HF:Hid (R=30):=by show _=_;rw [← HR.out,placeE,if_neg h1,if_pos HB.out]
   rw [show eno false=30 from rfl] at C
   clear h1
   go_enter Tryz.func132,Tryz.ntmps132
   go_wp2_with (go_at_call 114;refine C.mono ?_;rintro e w1 ⟨rfl,b1⟩)
   go_ret
   exact ⟨by rw [HF.out];rfl,b1⟩
  | true=>
   rw [show eno true=0 from rfl] at C
   have HE:Hid (R=if leP nm prev=true then 42 else 0):=by show _=_;rw [← HR.out,placeE,if_neg h1,if_neg (by rw [HB.out];simp)]
   clear h1
   rcases hp with ⟨hk0,rfl⟩ | ⟨j,p,rfl,rfl,hp⟩
   ·have hk0':¬ 0<k:=by omega
    clear hk0
    have HF:Hid (R=0):=by show _=_;rw [HE.out];rfl
    go_enter Tryz.func132,Tryz.ntmps132
    go_upto_region 6 with (go_at_call 114;refine C.mono ?_;rintro e w1 ⟨rfl,b1⟩)
    have B1:Hid (G w w1):=b1
    refine jV ?_
    have HD:Hid (G w w1.drew):=B1.out.trans (G.drew _)
    generalize w1.drew=w2 at *
    refine takeG 0 19 (.int .i64 k) rfl rfl (by kernel_rfl) (by kernel_rfl) (by kernel_rfl) (fun _ _ _ h=>h) (by kernel_rfl) (fun wz hz=>?_) ?_
    ·rfl
    try simp only [Act.put,sA,sB,sC]
    refine takeG 1 20 (.bool false) rfl rfl (by kernel_rfl) (by kernel_rfl) (by kernel_rfl) (fun _ _ _ h=>h) (by kernel_rfl) (fun wz hz=>?_) ?_
    ·go_simp
    try simp only [Act.put,sA,sB,sC]
    refine takeG 2 21 (.bool false) rfl rfl (by kernel_rfl) (by kernel_rfl) (by kernel_rfl) (fun _ _ _ h=>h) (by kernel_rfl) (fun wz hz=>?_) ?_
    ·rfl
    try simp only [Act.put,sA,sB,sC]
    refine skipG 3 22 rfl rfl (by kernel_rfl) (by kernel_rfl) (by kernel_rfl) (fun _ _ _ h=>h) (by kernel_rfl) ?_
    try simp only [Act.put,sA,sB,sC]
    refine skipG 4 23 rfl rfl (by kernel_rfl) (by kernel_rfl) (by kernel_rfl) (fun _ _ _ h=>h) (by kernel_rfl) ?_
    try simp only [Act.put,sA,sB,sC]
    refine skipG 5 24 rfl rfl (by kernel_rfl) (by kernel_rfl) (by kernel_rfl) (fun _ _ _ h=>h) (by kernel_rfl) ?_
    try simp only [Act.put,sA,sB,sC]
    refine skipG 6 25 rfl rfl (by kernel_rfl) (by kernel_rfl) (by kernel_rfl) (fun _ _ _ h=>h) (by kernel_rfl) ?_
    try simp only [Act.put,sA,sB,sC]
    refine skipG 7 26 rfl rfl (by kernel_rfl) (by kernel_rfl) (by kernel_rfl) (fun _ _ _ h=>h) (by kernel_rfl) ?_
    try simp only [Act.put,sA,sB,sC]
    refine skipG 8 27 rfl rfl (by kernel_rfl) (by kernel_rfl) (by kernel_rfl) (fun _ _ _ h=>h) (by kernel_rfl) ?_
    try simp only [Act.put,sA,sB,sC]
    refine skipG 9 28 rfl rfl (by kernel_rfl) (by kernel_rfl) (by kernel_rfl) (fun _ _ _ h=>h) (by kernel_rfl) ?_
    try simp only [Act.put,sA,sB,sC]
    refine skipG 10 29 rfl rfl (by kernel_rfl) (by kernel_rfl) (by kernel_rfl) (fun _ _ _ h=>h) (by kernel_rfl) ?_
    try simp only [Act.put,sA,sB,sC]
    refine skipG 11 30 rfl rfl (by kernel_rfl) (by kernel_rfl) (by kernel_rfl) (fun _ _ _ h=>h) (by kernel_rfl) ?_
    try simp only [Act.put,sA,sB,sC]
    refine skipG 12 31 rfl rfl (by kernel_rfl) (by kernel_rfl) (by kernel_rfl) (fun _ _ _ h=>h) (by kernel_rfl) ?_
    try simp only [Act.put,sA,sB,sC]
    refine skipG 13 32 rfl rfl (by kernel_rfl) (by kernel_rfl) (by kernel_rfl) (fun _ _ _ h=>h) (by kernel_rfl) ?_
    try simp only [Act.put,sA,sB,sC]
    refine skipG 14 33 rfl rfl (by kernel_rfl) (by kernel_rfl) (by kernel_rfl) (fun _ _ _ h=>h) (by kernel_rfl) ?_
    try simp only [Act.put,sA,sB,sC]
    refine takeG 15 34 (.bool false) rfl rfl (by kernel_rfl) (by kernel_rfl) (by kernel_rfl) (fun _ _ _ h=>h) (by kernel_rfl) (fun wz hz=>?_) ?_
    ·go_simp
    try simp only [Act.put,sA,sB,sC]
    refine doneG (by kernel_rfl) (fun w3 hg3=>?_)
    go_wp2_with fail
    go_ret
    exact ⟨by rw [HF.out];rfl,HD.out.trans hg3⟩
   ·have j1:(0:Int)<((j+1:Nat):Int):=by omega
    have j2:IntKind.i64.wrap (((j+1:Nat):Int)-1)=(j:Int):=by rw [IntKind.wrap_i64];omega
    have j3:(j:Int)<(N:Int):=by omega
    obtain ⟨bl,hbl⟩:∃ b,leB nm p=b:=⟨_,rfl⟩
    have HBL:Hid (leB nm p=bl):=hbl
    unfold leB at hbl
    have jp:0<j+1:=by omega
    generalize hj:j+1=jj at *
    clear hj
    go_enter Tryz.func132,Tryz.ntmps132
    go_upto_region 6 with (go_at_call 114;refine C.mono ?_;rintro e w1 ⟨rfl,b1⟩)
    have B1:Hid (G w w1):=b1
    refine jV ?_
    have HD:Hid (G w w1.drew):=B1.out.trans (G.drew _)
    have n1:=HD.out.cell hn
    have n2:=HD.out.cell hp
    generalize w1.drew=w2 at *
    refine takeG 0 19 (.int .i64 jj) rfl rfl (by kernel_rfl) (by kernel_rfl) (by kernel_rfl) (fun _ _ _ h=>h) (by kernel_rfl) (fun wz hz=>?_) ?_
    ·rfl
    try simp only [Act.put,sA,sB,sC]
    refine takeG 1 20 (.bool true) rfl rfl (by kernel_rfl) (by kernel_rfl) (by kernel_rfl) (fun _ _ _ h=>h) (by kernel_rfl) (fun wz hz=>?_) ?_
    ·go_simp
    try simp only [Act.put,sA,sB,sC]
    refine takeG 2 21 (.bool true) rfl rfl (by kernel_rfl) (by kernel_rfl) (by kernel_rfl) (fun _ _ _ h=>h) (by kernel_rfl) (fun wz hz=>?_) ?_
    ·rfl
    try simp only [Act.put,sA,sB,sC]
    refine takeG 3 22 (.slice (some ⟨g,o,none⟩) N cap) rfl rfl (by kernel_rfl) (by kernel_rfl) (by kernel_rfl) (fun _ _ _ h=>h) (by kernel_rfl) (fun wz hz=>?_) ?_
    ·rfl
    try simp only [Act.put,sA,sB,sC]
    refine takeG 4 23 (.int .i64 jj) rfl rfl (by kernel_rfl) (by kernel_rfl) (by kernel_rfl) (fun _ _ _ h=>h) (by kernel_rfl) (fun wz hz=>?_) ?_
    ·rfl
    try simp only [Act.put,sA,sB,sC]
    refine takeG 5 24 (.pointer (some ⟨g,o+jj*41,none⟩)) rfl rfl (by kernel_rfl) (by kernel_rfl) (by kernel_rfl) (fun _ _ _ h=>h) (by kernel_rfl) (fun wz hz=>?_) ?_
    ·go_simp
    try simp only [Act.put,sA,sB,sC]
    refine takeG 6 25 (.pointer (some ⟨g,o+jj*41,none⟩)) rfl rfl (by kernel_rfl) (by kernel_rfl) (by kernel_rfl) (fun _ _ _ h=>h) (by kernel_rfl) (fun wz hz=>?_) ?_
    ·go_simp
    try simp only [Act.put,sA,sB,sC]
    refine takeG 7 26 (.string nm) rfl rfl (by kernel_rfl) (by kernel_rfl) (by kernel_rfl) (fun _ _ _ h=>h) (by kernel_rfl) (fun wz hz=>?_) ?_
    ·have y0:=hz.cell n1;go_simp
    try simp only [Act.put,sA,sB,sC]
    refine takeG 8 27 (.slice (some ⟨g,o,none⟩) N cap) rfl rfl (by kernel_rfl) (by kernel_rfl) (by kernel_rfl) (fun _ _ _ h=>h) (by kernel_rfl) (fun wz hz=>?_) ?_
    ·rfl
    try simp only [Act.put,sA,sB,sC]
    refine takeG 9 28 (.int .i64 jj) rfl rfl (by kernel_rfl) (by kernel_rfl) (by kernel_rfl) (fun _ _ _ h=>h) (by kernel_rfl) (fun wz hz=>?_) ?_
    ·rfl
    try simp only [Act.put,sA,sB,sC]
    refine takeG 10 29 (.int .i64 j) rfl rfl (by kernel_rfl) (by kernel_rfl) (by kernel_rfl) (fun _ _ _ h=>h) (by kernel_rfl) (fun wz hz=>?_) ?_
    ·go_simp
    try simp only [Act.put,sA,sB,sC]
    refine takeG 11 30 (.pointer (some ⟨g,o+j*41,none⟩)) rfl rfl (by kernel_rfl) (by kernel_rfl) (by kernel_rfl) (fun _ _ _ h=>h) (by kernel_rfl) (fun wz hz=>?_) ?_
    ·go_simp
    try simp only [Act.put,sA,sB,sC]
    refine takeG 12 31 (.pointer (some ⟨g,o+j*41,none⟩)) rfl rfl (by kernel_rfl) (by kernel_rfl) (by kernel_rfl) (fun _ _ _ h=>h) (by kernel_rfl) (fun wz hz=>?_) ?_
    ·go_simp
    try simp only [Act.put,sA,sB,sC]
    refine takeG 13 32 (.string p) rfl rfl (by kernel_rfl) (by kernel_rfl) (by kernel_rfl) (fun _ _ _ h=>h) (by kernel_rfl) (fun wz hz=>?_) ?_
    ·have y0:=hz.cell n2;go_simp
    try simp only [Act.put,sA,sB,sC]
    refine takeG 14 33 (.bool bl) rfl rfl (by kernel_rfl) (by kernel_rfl) (by kernel_rfl) (fun _ _ _ h=>h) (by kernel_rfl) (fun wz hz=>?_) ?_
    ·go_simp
    try simp only [Act.put,sA,sB,sC]
    refine takeG 15 34 (.bool bl) rfl rfl (by kernel_rfl) (by kernel_rfl) (by kernel_rfl) (fun _ _ _ h=>h) (by kernel_rfl) (fun wz hz=>?_) ?_
    ·go_simp
    try simp only [Act.put,sA,sB,sC]
    refine doneG (by kernel_rfl) (fun w3 hg3=>?_)
    cases bl with
    | false=>
     have HF:Hid (R=0):=by show _=_;rw [HE.out,leP,HBL.out];rfl
     go_wp2_with fail
     go_ret
     exact ⟨by rw [HF.out];rfl,HD.out.trans hg3⟩
    | true=>
     have HF:Hid (R=42):=by show _=_;rw [HE.out,leP,HBL.out];rfl
     go_wp2_with fail
     go_ret
     exact ⟨by rw [HF.out];rfl,HD.out.trans hg3⟩
end Go.Proofs.YthfcanpkhjgomaaGreat
