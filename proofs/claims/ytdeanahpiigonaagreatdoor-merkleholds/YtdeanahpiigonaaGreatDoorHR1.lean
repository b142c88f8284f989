import Derived.Test.YtdeanahpiigonaaGreatDoorHN
import Derived.Test.YtdeanahpiigonaaGreatDoorWRef3
set_option maxRecDepth 100000
set_option maxHeartbeats 2000000
namespace Go.Proofs.YtdeanahpiigonaaGreatDoor
open Go.RowKit Hm
theorem lp (n:Nat) (w:World) (hn:n<9223372036854775808):
  Calls Tryz.prog 58 #[.int .i64 n] w fun e w'=>∃ v,e=.returned v∧Wi.Owns w' w.heap.size v (Wire.enc n)∧Below w.heap.size w w':=by
 go_enter Tryz.func58,Tryz.ntmps58
 go_wp2_with (go_at_call 76;go_loud (refine (Wi.za n _ (by omega)).mono ?_;rintro e w1 ⟨v1,rfl,ho1,hb1⟩))
 go_ret
 exact ⟨_,rfl,ho1,hb1⟩
namespace Wi
open Wire
theorem pK (K cap:Nat) (vs:List Value) (ls:List (List Int)) (w:World) (hl:ls.length=vs.length) (hn:vs.length≤1000000)
  (hcell:∀ i,i<vs.length→w.cell? ⟨K,i,none⟩=some (vs.getD i undef)) (hhas:∀ i,i<vs.length→Has w (vs.getD i undef) (ls.getD i [])) (hlen:ls.flatten.length≤16777216):
  Calls Tryz.prog 56 #[.slice (some ⟨K,0,none⟩) vs.length cap] w fun e w'=>∃ v,e=.returned v∧Owns w' w.heap.size v ls.flatten∧Below w.heap.size w w':=by
 have HC:Hid (∀ i,i<vs.length→w.cell? ⟨K,i,none⟩=some (vs.getD i undef)):=hcell
 have HH:Hid (∀ i,i<vs.length→Has w (vs.getD i undef) (ls.getD i [])):=hhas
 have HL:Hid (ls.length=vs.length):=hl
 clear hcell hhas hl
 go_enter Tryz.func56,Tryz.ntmps56
 go_wp2
 go_loopw [3,4] (fun v i wr=>∃ k:Nat,k≤vs.length∧i=.int .i64 k∧Owns wr w.heap.size v (flat ls k)∧Below w.heap.size w wr) (fun _ i _=>vs.length-(intOf i).toNat)
 case atStart=>exact ⟨0,Nat.zero_le _,rfl,by rw [bU];exact World.ownsRow_nil _ _ _ _,Below.refl _ _⟩
 case round=>
  obtain ⟨k,hk,rfl,ho,hb⟩:=hrel
  by_cases hlt:k<vs.length
  ·have hc0:=HC.o k hlt
   have hc:wr.cell? ⟨K,k,none⟩=some (vs.getD k undef):=(hb.cell (World.block_lt_of_cell? w _ hc0)).trans hc0
   have hx:=(HH.o k hlt).below hb
   have hle:=d9 ls (k+1)
   have hkl:k<ls.length:=by rw [HL.o];exact hlt
   have hfs:Hid (flat ls (k+1)=flat ls k++ls.getD k []):=bW _ _ hkl
   rw [hfs.o,List.length_append] at hle
   have hsz:=hb.size
   generalize vs.getD k undef=x at *
   generalize ls.getD k []=y at *
   clear hc0
   go_wp2_with (at_builtin;refine jd rfl (.tmp 11) (.tmp 15) rfl w.heap.size _ x (flat ls k) y rfl rfl ho hx (by omega) hsz ?_)
   intro v2 w2 ho2 hb2
   rw [← hfs.o] at ho2
   have hb3:=hb.trans hb2
   clear ho hb hc hx hb2 hfs
   go_wp2
   go_roundw
   case rel=>exact ⟨k+1,by omega,by go_num,ho2,hb3⟩
   case measure=>simp [intOf];omega
  ·have hkn:k=vs.length:=by omega
   subst hkn
   rw [gU ls vs.length (by rw [HL.o];exact Nat.le_refl _)] at ho
   go_wp2
   go_ret
   exact ⟨_,rfl,ho,hb⟩
end Wi
theorem cN (n:Nat) (w:World) (hn:n<9223372036854775808):
  Calls Tryz.prog 58 #[.int .i64 n] w fun e w'=>∃ v,e=.returned v∧Su.Owns w' w.heap.size v (encN n)∧G w w':=by
 refine (lp n w hn).mono ?_
 rintro e w' ⟨v,rfl,h1,h2⟩
 rw [← cR] at h1
 exact ⟨v,rfl,xC.1 h1,h2⟩
theorem wv (s:ByteArray) (w:World) (hs:s.size≤100000):
  Calls Tryz.prog 57 #[.string s] w fun e w'=>∃ v,e=.returned v∧Su.Owns w' w.heap.size v (encN s.size++strN s)∧G w w':=by
 refine (Wi.bL s w hs).mono ?_
 rintro e w' ⟨v,rfl,h1,h2⟩
 rw [← cR,← mT,← zP] at h1
 exact ⟨v,rfl,xC.1 h1,h2⟩
theorem zK (K cap:Nat) (vs:List Value) (ls:List (List Nat)) (w:World) (hl:ls.length=vs.length) (hn:vs.length≤1000000)
  (hcell:∀ i,i<vs.length→w.cell? ⟨K,i,none⟩=some (vs.getD i undef)) (hhas:∀ i,i<vs.length→Su.Has w (vs.getD i undef) (ls.getD i [])) (hlen:ls.flatten.length≤16777216):
  Calls Tryz.prog 56 #[.slice (some ⟨K,0,none⟩) vs.length cap] w fun e w'=>∃ v,e=.returned v∧Su.Owns w' w.heap.size v ls.flatten∧G w w':=by
 refine (Wi.pK K cap vs (ls.map up) w (by simpa using hl) hn hcell (fun i hi=>?_) (by rw [← zd,aB];exact hlen)).mono ?_
 ·have:=zp.2 (hhas i hi)
  have e:(ls.map up).getD i []=up (ls.getD i []):=by
   simp only [List.getD_eq_getElem?_getD,List.getElem?_map]
   cases ls[i]?<;>rfl
  rw [e];exact this
 rintro e w' ⟨v,rfl,h1,h2⟩
 rw [← zd] at h1
 exact ⟨v,rfl,xC.1 h1,h2⟩
theorem ak (a b:List Nat) (w:World) (ha:a.length=32) (hb:b.length=32):
  Calls Tryz.prog 55 #[.agg (a.map Su.vb).toArray,.agg (b.map Su.vb).toArray] w fun e w'=>∃ u,e=.returned u∧Su.Owns w' w.heap.size u (jw a b)∧G w w':=by
 obtain ⟨B,hB⟩:∃ B,w.heap.size=B:=⟨_,rfl⟩
 obtain ⟨w1,hw1⟩:∃ w1,w1=(w.alloc (.cells (a.map Su.vb).toArray 22)).alloc (.cells (b.map Su.vb).toArray 22):=⟨_,rfl⟩
 have H1:Hid (G w w1∧Lies w1 B 0 (a.map Su.vb).toArray∧Lies w1 (B+1) 0 (b.map Su.vb).toArray):=by
  rw [hw1,← hB]
  refine ⟨(G.alloc _ _).trans (G.alloc _ _),(G.alloc _ _).lies (jc w _ 22),?_⟩
  have:=jc (w.alloc (.cells (a.map Su.vb).toArray 22)) (b.map Su.vb).toArray 22
  rwa [World.size_alloc] at this
 have HS:Hid (∀ W,G w1 W→Su.Has W (.slice (some ⟨B,0,none⟩) 32 32) a∧Su.Has W (.slice (some ⟨B+1,0,none⟩) 32 32) b):=fun W hg=>⟨zr (hg.lies H1.o.2.1) a ha (fun j x h=>by rw [Nat.zero_add];simpa using h),zr (hg.lies H1.o.2.2) b hb (fun j x h=>by rw [Nat.zero_add];simpa using h)⟩
 have HT:Hid (jw a b=[[73],a,b].flatten):=by show _=_;unfold jw;simp
 have HB:Hid (a.length=32∧b.length=32∧w.heap.size=B):=⟨ha,hb,hB⟩
 generalize jw a b=OT at *
 generalize (a.map Su.vb).toArray=TA at *
 generalize (b.map Su.vb).toArray=TB at *
 clear ha hb
 refine (callsIn_wide (n:=3)).1 ?_
 refine callsIn_of_wp_marks Tryz.func55 rfl trivial (Go.wpIn_mono (Q:=RetM Tryz.f55 _) ?_ RetM.post) rfl
 simp only [Tryz.ntmps55,List.size_toArray,List.length_cons,List.length_nil,Nat.reduceAdd,Nat.reduceSub,Array.replicate_succ,Array.replicate_zero,List.push_toArray,List.append_toArray,List.nil_append,List.cons_append]
 gi_wp2_with fail
 rw [← hw1]
 refine qL 5 ?_
 have HD:Hid (G w1 w1.drew):=G.drew w1
 generalize w1.drew=w2 at *
 refine tX 1 6 (.slice (some ⟨B,0,none⟩) 32 32) rfl (by kernel_rfl) (fun _ _ _ h=>h) (fun wz hz=>?_) ?_
 ·have y:=kT B 0 wz;go_simp
 try simp only [Act.put,sA,sB,sC]
 refine tX 2 7 (.slice (some ⟨B+1,0,none⟩) 32 32) rfl (by kernel_rfl) (fun _ _ _ h=>h) (fun wz hz=>?_) ?_
 ·have y:=kT (B+1) 0 wz;go_simp
 try simp only [Act.put,sA,sB,sC]
 refine ja [0] (by kernel_rfl) (by simp) fun w3 hg3=>?_
 refine vX 0 5 (.slice (some ⟨w3.heap.size,0,none⟩) 1 1) (w3.alloc (.cells #[.int .u8 73] 5)) rfl (by kernel_rfl) (by go_simp) (G.alloc _ _) ?_
 try simp only [Act.put,sA,sB,sC]
 refine ja [3] (by kernel_rfl) (by simp) fun w4 hg4=>?_
 refine vX 3 8 (.slice (some ⟨w4.heap.size,0,none⟩) 3 3) (w4.alloc (.cells #[.slice (some ⟨w3.heap.size,0,none⟩) 1 1,.slice (some ⟨B,0,none⟩) 32 32,.slice (some ⟨B+1,0,none⟩) 32 32] 25)) rfl (by kernel_rfl) (by go_simp) (G.alloc _ _) ?_
 try simp only [Act.put,sA,sB,sC]
 refine ja [4] (by kernel_rfl) (by simp) fun w5 hg5=>?_
 have hz4:G w1 (w4.alloc (.cells #[.slice (some ⟨w3.heap.size,0,none⟩) 1 1,.slice (some ⟨B,0,none⟩) 32 32,.slice (some ⟨B+1,0,none⟩) 32 32] 25)):=(((HD.o.trans hg3).trans (G.alloc _ _)).trans hg4).trans (G.alloc _ _)
 have hz5:G w1 w5:=hz4.trans hg5
 have hL:=hg5.lies (jc w4 #[.slice (some ⟨w3.heap.size,0,none⟩) 1 1,.slice (some ⟨B,0,none⟩) 32 32,.slice (some ⟨B+1,0,none⟩) 32 32] 25)
 have hb3:Su.Has w5 (.slice (some ⟨w3.heap.size,0,none⟩) 1 1) [73]:=(qD w3 73).below ((hg4.trans (G.alloc _ _)).trans hg5)
 have CC:=zK w4.heap.size 3 [.slice (some ⟨w3.heap.size,0,none⟩) 1 1,.slice (some ⟨B,0,none⟩) 32 32,.slice (some ⟨B+1,0,none⟩) 32 32] [[73],a,b] w5 rfl (by simp)
  (fun i hi=>match i,hi with | 0,_=>jD hL 0 _ rfl | 1,_=>jD hL 1 _ rfl | 2,_=>jD hL 2 _ rfl | i+3,hi=>absurd hi (by simp))
  (fun i hi=>match i,hi with | 0,_=>hb3 | 1,_=>(HS.o w5 hz5).1 | 2,_=>(HS.o w5 hz5).2 | i+3,hi=>absurd hi (by simp)) (by have:=HB.o;simp;omega)
 refine kX 4 9 56 #[.slice (some ⟨w4.heap.size,0,none⟩) 3 3] rfl (by kernel_rfl) (by go_simp) ((callsIn_wide.2 CC).mono ?_)
 rintro e w6 ⟨u,rfl,h6,hg6⟩
 refine ⟨_,rfl,hg6,?_⟩
 try simp only [Act.put,sA,sB,sC]
 refine zk (by kernel_rfl) fun w9 hg9=>?_
 refine wpAnyIn_ready (rs:=[5]) (by kernel_rfl) (by simp) ?_
 refine km 5 4 (u) (w9) rfl rfl (by kernel_rfl) (rfl) ?_ AllReadyIn.nil
 try simp only [Act.put,sA,sB,sC]
 refine wpAnyIn_done (by kernel_rfl) ?_ _
 have HF:Hid (Su.Owns w9 w.heap.size u OT∧G w w9):=by
  have hBB:=HB.o.2.2
  have:=(H1.o.1.trans hz5).size
  refine ⟨?_,(H1.o.1.trans hz5).trans (hg6.trans hg9)⟩
  rw [HT.o]
  exact Su.Owns.mono (Su.Owns.below h6 hg9 (Nat.le_refl _)) (by omega)
 clear CC hb3 hL hz5 hz4 h6
 gi_wp2_with fail
 exact ⟨_,results_tmp rfl _ _ _,u,rfl,HF.o⟩
end Go.Proofs.YtdeanahpiigonaaGreatDoor
