import Derived.Test.YthfcanpkhjgomaaGreatCFew
import Derived.Deep.CutBlock
import Derived.Test.YthfcanpkhjgomaaGreatXn
set_option maxRecDepth 100000
set_option maxHeartbeats 8000000
namespace Go.Proofs.YthfcanpkhjgomaaGreat.Ch
open Go.RowKit
def RIdle (w:World) (K:Nat):Prop:=∀ i,i<26→¬ (6≤i∧i<8)→w.cell? ⟨K,i,none⟩=some (.slice none 0 0)
theorem roomBytes_idle (K:Nat) (w:World) (hi:RIdle w K):
  Calls Tryz.prog 42 #[.pointer (some ⟨K,0,none⟩)] w fun e w'=>e=.returned (.bool true)∧w'=w:=by
 have h1:w.cell? ⟨K,0,none⟩=some (.slice none 0 0):=hi 0 (by decide) (by decide)
 clear hi
 go_enter Tryz.func42,Tryz.ntmps42
 go_wp2
 go_loopw [3] (fun i wr=>i=.int .i64 0∧wr=w) (fun _ _=>0)
 case atStart=>exact ⟨rfl,rfl⟩
 case round=>
  obtain ⟨rfl,rfl⟩:=hrel
  go_wp2
  go_ret
  exact ⟨rfl,rfl⟩
theorem roomInts_idle (K:Nat) (w:World) (hi:RIdle w K):
  Calls Tryz.prog 43 #[.pointer (some ⟨K,0,none⟩)] w fun e w'=>e=.returned (.bool true)∧w'=w:=by
 have h1:w.cell? ⟨K,2,none⟩=some (.slice none 0 0):=hi 2 (by decide) (by decide)
 clear hi
 go_enter Tryz.func43,Tryz.ntmps43
 go_wp2
 go_loopw [3] (fun i wr=>i=.int .i64 0∧wr=w) (fun _ _=>0)
 case atStart=>exact ⟨rfl,rfl⟩
 case round=>
  obtain ⟨rfl,rfl⟩:=hrel
  go_wp2
  go_ret
  exact ⟨rfl,rfl⟩
theorem roomTexts_idle (K:Nat) (w:World) (hi:RIdle w K):
  Calls Tryz.prog 44 #[.pointer (some ⟨K,0,none⟩)] w fun e w'=>e=.returned (.bool true)∧w'=w:=by
 have h1:w.cell? ⟨K,4,none⟩=some (.slice none 0 0):=hi 4 (by decide) (by decide)
 clear hi
 go_enter Tryz.func44,Tryz.ntmps44
 go_wp2
 go_loopw [3] (fun i wr=>i=.int .i64 0∧wr=w) (fun _ _=>0)
 case atStart=>exact ⟨rfl,rfl⟩
 case round=>
  obtain ⟨rfl,rfl⟩:=hrel
  go_wp2
  go_ret
  exact ⟨rfl,rfl⟩
theorem roomCells_idle (K:Nat) (w:World) (hi:RIdle w K):
  Calls Tryz.prog 46 #[.pointer (some ⟨K,0,none⟩)] w fun e w'=>e=.returned (.bool true)∧w'=w:=by
 have h1:w.cell? ⟨K,8,none⟩=some (.slice none 0 0):=hi 8 (by decide) (by decide)
 clear hi
 go_enter Tryz.func46,Tryz.ntmps46
 go_wp2
 go_loopw [3] (fun i wr=>i=.int .i64 0∧wr=w) (fun _ _=>0)
 case atStart=>exact ⟨rfl,rfl⟩
 case round=>
  obtain ⟨rfl,rfl⟩:=hrel
  go_wp2
  go_ret
  exact ⟨rfl,rfl⟩
theorem roomItems_idle (K:Nat) (w:World) (hi:RIdle w K):
  Calls Tryz.prog 47 #[.pointer (some ⟨K,0,none⟩)] w fun e w'=>e=.returned (.bool true)∧w'=w:=by
 have h1:w.cell? ⟨K,10,none⟩=some (.slice none 0 0):=hi 10 (by decide) (by decide)
 clear hi
 go_enter Tryz.func47,Tryz.ntmps47
 go_wp2
 go_loopw [3] (fun i wr=>i=.int .i64 0∧wr=w) (fun _ _=>0)
 case atStart=>exact ⟨rfl,rfl⟩
 case round=>
  obtain ⟨rfl,rfl⟩:=hrel
  go_wp2
  go_ret
  exact ⟨rfl,rfl⟩
theorem roomPlaceds_idle (K:Nat) (w:World) (hi:RIdle w K):
  Calls Tryz.prog 48 #[.pointer (some ⟨K,0,none⟩)] w fun e w'=>e=.returned (.bool true)∧w'=w:=by
 have h1:w.cell? ⟨K,12,none⟩=some (.slice none 0 0):=hi 12 (by decide) (by decide)
 clear hi
 go_enter Tryz.func48,Tryz.ntmps48
 go_wp2
 go_loopw [3] (fun i wr=>i=.int .i64 0∧wr=w) (fun _ _=>0)
 case atStart=>exact ⟨rfl,rfl⟩
 case round=>
  obtain ⟨rfl,rfl⟩:=hrel
  go_wp2
  go_ret
  exact ⟨rfl,rfl⟩
theorem roomRules_idle (K:Nat) (w:World) (hi:RIdle w K):
  Calls Tryz.prog 49 #[.pointer (some ⟨K,0,none⟩)] w fun e w'=>e=.returned (.bool true)∧w'=w:=by
 have h1:w.cell? ⟨K,14,none⟩=some (.slice none 0 0):=hi 14 (by decide) (by decide)
 clear hi
 go_enter Tryz.func49,Tryz.ntmps49
 go_wp2
 go_loopw [3] (fun i wr=>i=.int .i64 0∧wr=w) (fun _ _=>0)
 case atStart=>exact ⟨rfl,rfl⟩
 case round=>
  obtain ⟨rfl,rfl⟩:=hrel
  go_wp2
  go_ret
  exact ⟨rfl,rfl⟩
theorem roomChunks_idle (K:Nat) (w:World) (hi:RIdle w K):
  Calls Tryz.prog 50 #[.pointer (some ⟨K,0,none⟩)] w fun e w'=>e=.returned (.bool true)∧w'=w:=by
 have h1:w.cell? ⟨K,16,none⟩=some (.slice none 0 0):=hi 16 (by decide) (by decide)
 clear hi
 go_enter Tryz.func50,Tryz.ntmps50
 go_wp2
 go_loopw [3] (fun i wr=>i=.int .i64 0∧wr=w) (fun _ _=>0)
 case atStart=>exact ⟨rfl,rfl⟩
 case round=>
  obtain ⟨rfl,rfl⟩:=hrel
  go_wp2
  go_ret
  exact ⟨rfl,rfl⟩
theorem roomThings_idle (K:Nat) (w:World) (hi:RIdle w K):
  Calls Tryz.prog 51 #[.pointer (some ⟨K,0,none⟩)] w fun e w'=>e=.returned (.bool true)∧w'=w:=by
 have h1:w.cell? ⟨K,18,none⟩=some (.slice none 0 0):=hi 18 (by decide) (by decide)
 clear hi
 go_enter Tryz.func51,Tryz.ntmps51
 go_wp2
 go_loopw [3] (fun i wr=>i=.int .i64 0∧wr=w) (fun _ _=>0)
 case atStart=>exact ⟨rfl,rfl⟩
 case round=>
  obtain ⟨rfl,rfl⟩:=hrel
  go_wp2
  go_ret
  exact ⟨rfl,rfl⟩
theorem roomDones_idle (K:Nat) (w:World) (hi:RIdle w K):
  Calls Tryz.prog 52 #[.pointer (some ⟨K,0,none⟩)] w fun e w'=>e=.returned (.bool true)∧w'=w:=by
 have h1:w.cell? ⟨K,20,none⟩=some (.slice none 0 0):=hi 20 (by decide) (by decide)
 clear hi
 go_enter Tryz.func52,Tryz.ntmps52
 go_wp2
 go_loopw [3] (fun i wr=>i=.int .i64 0∧wr=w) (fun _ _=>0)
 case atStart=>exact ⟨rfl,rfl⟩
 case round=>
  obtain ⟨rfl,rfl⟩:=hrel
  go_wp2
  go_ret
  exact ⟨rfl,rfl⟩
theorem roomNodes_idle (K:Nat) (w:World) (hi:RIdle w K):
  Calls Tryz.prog 53 #[.pointer (some ⟨K,0,none⟩)] w fun e w'=>e=.returned (.bool true)∧w'=w:=by
 have h1:w.cell? ⟨K,22,none⟩=some (.slice none 0 0):=hi 22 (by decide) (by decide)
 clear hi
 go_enter Tryz.func53,Tryz.ntmps53
 go_wp2
 go_loopw [3] (fun i wr=>i=.int .i64 0∧wr=w) (fun _ _=>0)
 case atStart=>exact ⟨rfl,rfl⟩
 case round=>
  obtain ⟨rfl,rfl⟩:=hrel
  go_wp2
  go_ret
  exact ⟨rfl,rfl⟩
theorem roomSteps_idle (K:Nat) (w:World) (hi:RIdle w K):
  Calls Tryz.prog 54 #[.pointer (some ⟨K,0,none⟩)] w fun e w'=>e=.returned (.bool true)∧w'=w:=by
 have h1:w.cell? ⟨K,24,none⟩=some (.slice none 0 0):=hi 24 (by decide) (by decide)
 clear hi
 go_enter Tryz.func54,Tryz.ntmps54
 go_wp2
 go_loopw [3] (fun i wr=>i=.int .i64 0∧wr=w) (fun _ _=>0)
 case atStart=>exact ⟨rfl,rfl⟩
 case round=>
  obtain ⟨rfl,rfl⟩:=hrel
  go_wp2
  go_ret
  exact ⟨rfl,rfl⟩
theorem room_by (K:Nat) (w:World) (Q:World→Prop) (hB:Calls Tryz.prog 45 #[.pointer (some ⟨K,0,none⟩)] w fun e w'=>e=.returned (.bool true)∧Q w') (hQ:∀ w',Q w'→RIdle w' K) (hI0:RIdle w K):
  Calls Tryz.prog 14 #[.pointer (some ⟨K,0,none⟩)] w fun e w'=>e=.returned (.bool true)∧Q w':=by
 have HB:Hid (Calls Tryz.prog 45 #[.pointer (some ⟨K,0,none⟩)] w fun e w'=>e=.returned (.bool true)∧Q w'):=hB
 have HQ0:Hid (∀ w',Q w'→RIdle w' K):=hQ
 clear hB hQ
 go_enter Tryz.func14,Tryz.ntmps14
 go_wp2_with (first | (go_at_call 42;refine (roomBytes_idle K _ hI0).mono ?_;rintro e w2 ⟨rfl,e2⟩;subst e2) | (go_at_call 43;refine (roomInts_idle K _ hI0).mono ?_;rintro e w2 ⟨rfl,e2⟩;subst e2) | (go_at_call 44;refine (roomTexts_idle K _ hI0).mono ?_;rintro e w2 ⟨rfl,e2⟩;subst e2))
 refine HB.out.mono ?_
 rintro e w1 ⟨rfl,hq⟩
 have HQ:Hid (Q w1):=hq
 have hI:=HQ0.out w1 hq
 clear hq HB HQ0 hI0
 go_wp2_with (first | (go_at_call 46;refine (roomCells_idle K _ hI).mono ?_;rintro e w2 ⟨rfl,e2⟩;subst e2) | (go_at_call 47;refine (roomItems_idle K _ hI).mono ?_;rintro e w2 ⟨rfl,e2⟩;subst e2) | (go_at_call 48;refine (roomPlaceds_idle K _ hI).mono ?_;rintro e w2 ⟨rfl,e2⟩;subst e2) | (go_at_call 49;refine (roomRules_idle K _ hI).mono ?_;rintro e w2 ⟨rfl,e2⟩;subst e2) | (go_at_call 50;refine (roomChunks_idle K _ hI).mono ?_;rintro e w2 ⟨rfl,e2⟩;subst e2) | (go_at_call 51;refine (roomThings_idle K _ hI).mono ?_;rintro e w2 ⟨rfl,e2⟩;subst e2) | (go_at_call 52;refine (roomDones_idle K _ hI).mono ?_;rintro e w2 ⟨rfl,e2⟩;subst e2) | (go_at_call 53;refine (roomNodes_idle K _ hI).mono ?_;rintro e w2 ⟨rfl,e2⟩;subst e2) | (go_at_call 54;refine (roomSteps_idle K _ hI).mono ?_;rintro e w2 ⟨rfl,e2⟩;subst e2))
 go_ret
 exact ⟨rfl,HQ.out⟩
open Bk
def wordT (i:Nat):ByteArray:=if i%2=0 then ⟨#[60,111,110,101,62]⟩ else ⟨#[60,116,119,111,62]⟩
def mkC (i:Nat):Cd:=chP (wordT i)
def mksC (m:Nat):List Cd:=(List.range m).map mkC
theorem mksC_next (m:Nat):mksC (m+1)=mksC m++[mkC m]:=by simp [mksC,List.range_succ]
theorem mksC_len (m:Nat):(mksC m).length=m:=by simp [mksC]
theorem word_any (i:Nat) (w:World) (hi:i≤1000000):Calls Tryz.prog 72 #[.int .i64 (i:Int)] w fun e w'=>e=.returned (.string (wordT i))∧w'=w:=by
 by_cases h:i%2=0
 ·have e:wordT i=⟨#[60,111,110,101,62]⟩:=by simp [wordT,h]
  have hz:((i:Int).tmod 2==0)=true:=by rw [Int.tmod_eq_emod_of_nonneg (by omega)];simp;omega
  rw [e];clear e
  go_enter Tryz.func72,Tryz.ntmps72
  go_wp2
  all_goals go_ret
  all_goals exact ⟨rfl,rfl⟩
 ·have e:wordT i=⟨#[60,116,119,111,62]⟩:=by simp [wordT,h]
  have hz:((i:Int).tmod 2==0)=false:=by rw [Int.tmod_eq_emod_of_nonneg (by omega)];simp;omega
  rw [e];clear e
  go_enter Tryz.func72,Tryz.ntmps72
  go_wp2
  all_goals go_ret
  all_goals exact ⟨rfl,rfl⟩
structure En where
 F:Nat
 n:Nat
 c:Nat
def En.sl (e:En):Value:=.slice (some ⟨e.F,0,none⟩) (e.n+40) e.c
theorem row_type {w:World} {lo e s n b:Nat} {v:Value} {xs:List Value} (h:w.ownsRow lo e s v n xs) {cs:Array Value} {t:TypeId} {f:Nat × Nat} (hb:w.heap[b]?=some (.cells cs t f)) (ht:e≠t):v.ownBlock≠some b:=by
 intro q
 obtain ⟨_,⟨rfl,_⟩ | ⟨g,cap,cur,rfl,_,hh,_⟩⟩:=h
 ·cases q
 ·cases q
  rw [hb] at hh
  cases hh
  exact ht rfl
def RoomOk (w:World) (lo R:Nat) (E:List En) (B:Nat→Prop):Prop:=
 ∃ va vb,(∃ cs,w.heap[R]?=some (.cells cs 53 (0,0)))∧(∀ i,i<26→¬ (6≤i∧i<8)→w.cell? ⟨R,i,none⟩=some (.slice none 0 0))∧w.cell? ⟨R,6,none⟩=some va∧w.cell? ⟨R,7,none⟩=some vb∧
  w.ownsRow lo 31 1 va E.length (E.map En.sl)∧w.ownsRow lo 3 1 vb E.length (E.map fun e=>.int .i64 (e.n:Int))∧(∀ e∈E,¬ B e.F∧∀ j,j<40→Lies w e.F ((e.n+j)*71) (cc (mkC j)))∧
  (∀ b,B b↔b=R∨va.ownBlock=some b∨vb.ownBlock=some b)
theorem RoomOk.keep {w w':World} {lo R:Nat} {E:List En} {B:Nat→Prop} (h:RoomOk w lo R E B) (hb:∀ b,B b→w'.heap[b]?=w.heap[b]?) (hm:∀ e∈E,∀ j,j<40→Lies w' e.F ((e.n+j)*71) (cc (mkC j))):RoomOk w' lo R E B:=by
 obtain ⟨va,vb,⟨cs,h1⟩,h2,h4,h5,h6,h7,h8,h9⟩:=h
 have kR:w'.heap[R]?=w.heap[R]?:=hb R ((h9 R).2 (.inl rfl))
 exact ⟨va,vb,⟨cs,kR.trans h1⟩,fun i a b=>(World.cell?_of_block kR).trans (h2 i a b),(World.cell?_of_block kR).trans h4,(World.cell?_of_block kR).trans h5,
  rowB h6 fun k hk=>hb k ((h9 k).2 (.inr (.inl hk))),rowB h7 fun k hk=>hb k ((h9 k).2 (.inr (.inr hk))),fun e he=>⟨(h8 e he).1,hm e he⟩,h9⟩
theorem RoomOk.below {w w':World} {lo R:Nat} {E:List En} {B:Nat→Prop} (h:RoomOk w lo R E B) (hb:Below w.heap.size w w'):RoomOk w' lo R E B:=by
 have h0:=h
 obtain ⟨va,vb,⟨cs,h1⟩,h2,h4,h5,h6,h7,h8,h9⟩:=h
 refine h0.keep (fun b hB=>hb.block b ?_) (fun e he j hj=>((h8 e he).2 j hj).below hb)
 rcases (h9 b).1 hB with rfl | e | e
 ·exact (Array.getElem?_eq_some_iff.1 h1).1
 ·exact (World.ownsRow.lt h6 b e).2
 ·exact (World.ownsRow.lt h7 b e).2
theorem RoomOk.lt {w:World} {lo R:Nat} {E:List En} {B:Nat→Prop} (h:RoomOk w lo R E B):∀ b,B b→b<w.heap.size:=by
 obtain ⟨va,vb,⟨cs,h1⟩,h2,h4,h5,h6,h7,h8,h9⟩:=h
 intro b hB
 rcases (h9 b).1 hB with rfl | e | e
 ·exact (Array.getElem?_eq_some_iff.1 h1).1
 ·exact (World.ownsRow.lt h6 b e).2
 ·exact (World.ownsRow.lt h7 b e).2
theorem roomI22:(Tryz.prog.info? 31).map (fun i=>(i.zero,i.size,i.bytes))=some (some (.slice none 0 0),1,24):=by kernel_rfl
theorem roomI3:(Tryz.prog.info? 3).map (fun i=>(i.zero,i.size,i.bytes))=some (some (.int .i64 0),1,8):=by kernel_rfl
theorem lay_any (lo R:Nat) (E:List En) (B:Nat→Prop) (ao:Option Addr) (cp:Nat) (L:List Cd) (w:World) (hv:HasA w (.slice ao L.length cp) L) (hn:L.length≤10000) (hE:E.length≤5) (hr:RoomOk w lo R E B) (_hlo:lo≤w.heap.size) (hRlo:lo≤R):
  Calls Tryz.prog 30 #[.pointer (some ⟨R,0,none⟩),.slice ao L.length cp,.int .i64 40] w fun e w'=>∃ F c B',e=.returned (.slice (some ⟨F,0,none⟩) L.length (L.length+40))∧RoomOk w' lo R (E++[⟨F,L.length,c⟩]) B'∧w.heap.size≤F∧¬ B' F∧OwnsR w' w.heap.size (.slice (some ⟨F,0,none⟩) (L.length+40) c) (L++mksC 40)∧(∀ b,b<w.heap.size→¬ B b→w'.heap[b]?=w.heap[b]?∧¬ B' b)∧Below lo w w':=by
 obtain ⟨va,vb,⟨cs,hRR⟩,hidl,c6,c7,rA,rB,hmk,hBB⟩:=hr
 have hR:R<w.heap.size:=(Array.getElem?_eq_some_iff.1 hRR).1
 obtain ⟨pa,qa,ea⟩:=row_form rA
 obtain ⟨pb,qb,eb⟩:=row_form rB
 subst ea eb
 obtain ⟨n,hn'⟩:∃ n,L.length=n:=⟨_,rfl⟩
 obtain ⟨k0,hk0⟩:∃ k0,E.length=k0:=⟨_,rfl⟩
 obtain ⟨B0,hB0⟩:∃ B0,w.heap.size=B0:=⟨_,rfl⟩
 have HV:=hid hv
 have HN:=hid hn'
 have HROOM:=hid (And.intro hidl (And.intro hRR (And.intro rA (And.intro rB (And.intro hmk hBB)))))
 have HK0:=hid hk0
 rw [hn'] at hn HV ⊢
 rw [hk0] at c6 c7 hE
 clear hidl hRR rA rB hmk hBB hv
 go_enter Tryz.func30,Tryz.ntmps30
 go_upto_region 2 with fail
 obtain ⟨w1,hw1⟩:∃ w1,w.alloc (.cells #[] 66)=w1:=⟨_,rfl⟩
 have g1:Below w.heap.size w w1:=by rw [← hw1];exact (Below.refl _ w).alloc (Nat.le_refl _) _
 have o1:OwnsR w1 B0 (.slice (some ⟨B0,0,none⟩) 0 0) []:=by rw [← hw1,← hB0];exact owns_lit0 w
 obtain ⟨v2,w2,hr2,o2,gr2,nn2,_⟩:=app_run 31 o1 (by have:=HV.out.below g1;exact this) (by have:=g1.size;omega) (by simp;rw [HN.out];omega)
 rw [List.nil_append] at o2
 have g2:Below w.heap.size w w2:=by
  refine ⟨gr2.os.trans g1.os,gr2.tape.trans g1.tape,gr2.output.trans g1.output,Nat.le_trans g1.size gr2.size,fun k hk=>(gr2.block k (Nat.lt_of_lt_of_le hk g1.size) (fun e=>?_)).trans (g1.block k hk)⟩
  simp [Value.ownBlock] at e
  omega
 have HR2:=hid hr2
 have H2:Hid (OwnsR w2 B0 v2 (L++mksC 0)∧v2≠.slice none 0 0∧Below w.heap.size w w2):=⟨by simpa [mksC] using o2,nn2 (by simp),g2⟩
 rw [hw1]
 clear hw1 g1 o1 hr2 o2 gr2 nn2 g2
 go_upto_region 3 with ((with_reducible refine jJ v2 w2 ?_ ?_ ?_);exact exec_app (v:=.slice (some ⟨B0,0,none⟩) 0 0) (src:=.slice ao n cp) rfl rfl rfl HR2.out;kernel_rfl)
 clear HR2
 go_wp2
 go_loopg [7,8] 40 (fun gh v i wr=>∃ k:Nat,k≤40∧gh=40-k∧i=.int .i64 (k:Int)∧Hid (OwnsR wr B0 v (L++mksC k)∧v≠.slice none 0 0∧Below w.heap.size w wr))
 case atStart=>exact ⟨0,Nat.zero_le _,rfl,rfl,H2.out⟩
 case round=>
  clear H2
  obtain ⟨k,hk,rfl,rfl,HR⟩:=hrel
  obtain ⟨a3,c3,e3⟩:=HR.out.1.form
  rw [List.length_append,HN.out,mksC_len] at e3
  have h0:=HR.out.2.1
  rw [e3] at h0
  have HOC:=hid HR.out.1
  have HGW:=hid HR.out.2.2
  rw [e3] at HOC
  subst e3
  by_cases hlt:k<40
  ·have kI:(k:Int)<40:=by omega
   have k0:(0:Int)≤(k:Int):=by omega
   have CL:=hid (word_any k wr (by omega))
   obtain ⟨lv,hlv⟩:∃ lv,wordT k=lv:=⟨_,rfl⟩
   obtain ⟨Z,hZ⟩:∃ Z,cc (mkC k)=Z:=⟨_,rfl⟩
   have HZ:Hid (cc (chP lv)=Z∧Z.size=71):=⟨by rw [← hlv];exact hZ,by rw [← hZ];exact jl _⟩
   rw [hlv] at CL
   obtain ⟨B1,hB1⟩:∃ B1,wr.heap.size=B1:=⟨_,rfl⟩
   obtain ⟨v4,w4,hr4,o4,g4,_,nn4⟩:=app_one 31 (mkC k) Z hZ HOC.out (by have:=HGW.out.size;omega) (by rw [List.length_append,HN.out,mksC_len];omega) B1 hB1
   have HE:Hid (OwnsR w4 B0 v4 (L++mksC (k+1))∧v4≠.slice none 0 0∧Below w.heap.size w w4):=⟨by rw [mksC_next,← List.append_assoc];exact o4,nn4.1,by have:=HGW.out;rw [hB0] at this ⊢;exact this.trans g4⟩
   have HR4:=hid hr4
   clear hlv hZ HR h0 hr4 o4 g4 nn4
   go_wp2_with (first
    | (go_at_call 72;refine CL.out.mono ?_;rintro e wq ⟨rfl,hwq⟩;have hwq':=hwq.symm;clear hwq;subst hwq')
    | ((with_reducible refine jA (.agg Z) ?_ ?_ ?_);exact (by rw [← HZ.out.1];exact exec_build55p _ rfl lv rfl _);kernel_rfl)
    | ((with_reducible refine jJ (.slice (some ⟨B1,0,none⟩) 1 1) (wr.alloc (.cells Z 66)) ?_ ?_ ?_);exact exec_slice55 _ rfl Z rfl HZ.out.2 _ _ hB1;kernel_rfl)
    | ((with_reducible refine jJ v4 w4 ?_ ?_ ?_);exact exec_app (v:=.slice a3 (n+k) c3) (src:=.slice (some ⟨B1,0,none⟩) 1 1) rfl rfl rfl HR4.out;kernel_rfl))
   go_roundg (40-(k+1))
   case measure=>omega
   case rel=>exact ⟨k+1,by omega,rfl,by go_num,HE.out⟩
  ·obtain rfl:k=40:=by omega
   have kI:¬ ((40:Nat):Int)<40:=by omega
   obtain ⟨F,hF⟩:∃ F,a3=some ⟨F,0,none⟩:=by
    obtain ⟨_,⟨e,_⟩ | ⟨g,cap,cur,e,_⟩⟩:=HOC.out
    ·exact absurd e h0
    ·injection e with e1 _ _
     exact ⟨g,e1⟩
   subst hF
   obtain ⟨C0,hC0⟩:∃ C0,wr.heap.size=C0:=⟨_,rfl⟩
   have hsz:=HGW.out.size
   have hFlt:=World.ownsRow.lt HOC.out F rfl
   obtain ⟨hidl,hRR,rA,rB,hmk,hBB⟩:=HROOM.out
   have hRw:wr.heap[R]?=some (.cells cs 53 (0,0)):=(HGW.out.block R hR).trans hRR
   have r6:=(HGW.out.cell (p:=⟨R,6,none⟩) (by simpa using hR)).trans c6
   have r7:=(HGW.out.cell (p:=⟨R,7,none⟩) (by simpa using hR)).trans c7
   obtain ⟨j0,hj,hy0,hy1,hy2⟩:=info_parts roomI22
   obtain ⟨l0,hl,hx0,hx1,hx2⟩:=info_parts roomI3
   rw [hk0] at rA rB
   have rA1:wr.ownsRow lo 31 1 (.slice pa k0 qa) k0 (E.map En.sl):=World.ownsRow.kept rA (grown_of HGW.out) (by cases hv:(Value.slice pa k0 qa).ownBlock<;>simp)
   have rB1:wr.ownsRow lo 3 1 (.slice pb k0 qb) k0 (E.map fun e=>.int .i64 (e.n:Int)):=World.ownsRow.kept rB (grown_of HGW.out) (by cases hv:(Value.slice pb k0 qb).ownBlock<;>simp)
   have HRA:=hid (World.ownsRow.alloc rA1 (.cells #[.slice (some ⟨F,0,none⟩) (n+40) c3] 31))
   have lenE:(E.map En.sl).length=k0:=by simp [hk0]
   have HLB:=hid (World.ownsRow.lt rB1)
   have HLA:=hid (World.ownsRow.lt rA1)
   have HRB:=hid rB1
   have nRC:¬ R=C0:=by omega
   clear h0 HR rA rB rA1 rB1
   go_upto_region 8 with (at_builtin;refine wpList_append_lies _ rfl _ _ _ rfl lo 31 j0 _ 1 24 Tryz.underlying42 hj hy0 hy1 hy2 rfl (by omega) (.slice pa k0 qa) k0 (E.map En.sl) rfl HRA.out ⟨C0,0,none⟩ 1 1 [.slice (some ⟨F,0,none⟩) (n+40) c3] rfl rfl ?c1 ?c2 (by omega) (by unfold maxLen;omega) (by omega) ?c3 (C0+1) ?c4 ?_)
   case c2=>rfl
   case c3=>omega
   intro gA cA w3 hown hgr hat hlt3
   obtain ⟨⟨Fc,hFc⟩,hFB⟩:(∃ Fc,wr.heap[F]?=some (.cells Fc 66 (0,0)))∧B0≤F:=by
    obtain ⟨_,⟨e,_⟩ | ⟨g,cap,cur,e,h1,h2,_⟩⟩:=HOC.out
    ·cases e
    ·injection e with e1 _ _
     injection e1 with e1
     injection e1 with e1 _
     subst e1
     exact ⟨⟨cur,h2⟩,h1⟩
   have nRA:=row_type HRA.out (Below.heap_alloc wr _ R (by omega) |>.trans hRw) (by decide)
   have nFA:=row_type HRA.out (Below.heap_alloc wr _ F (by omega) |>.trans hFc) (by decide)
   have kb3:∀ b,b<C0→(Value.slice pa k0 qa).ownBlock≠some b→w3.heap[b]?=wr.heap[b]?:=fun b hb hne=>(hgr.block b (by simp;omega) (fun e=>hne e.symm)).trans (Below.heap_alloc wr _ b (by omega))
   have hs3:C0+1≤w3.heap.size:=by have:=hgr.size;simp at this;omega
   have hRw3:w3.heap[R]?=some (.cells cs 53 (0,0)):=(kb3 R (by omega) nRA).trans hRw
   have hFc3:w3.heap[F]?=some (.cells Fc 66 (0,0)):=(kb3 F (by omega) nFA).trans hFc
   have s6:w3.cell? ⟨R,6,none⟩=some (.slice pa k0 qa):=(World.cell?_of_block (kb3 R (by omega) nRA)).trans r6
   have s7:w3.cell? ⟨R,7,none⟩=some (.slice pb k0 qb):=(World.cell?_of_block (kb3 R (by omega) nRA)).trans r7
   have f6:w3.frozen? ⟨R,6,none⟩=false:=by simp [World.frozen?,hRw3]
   have rB3:w3.ownsRow lo 3 1 (.slice pb k0 qb) k0 (E.map fun e=>.int .i64 (e.n:Int)):=rowB HRB.out fun k hk=>kb3 k (by have:=(HLB.out k hk).2;omega) (fun q=>by
    obtain ⟨_,⟨e,_⟩ | ⟨g,cap,cur,e,_,h2,_⟩⟩:=HRB.out
    ·rw [e] at hk;cases hk
    ·rw [e] at hk
     cases hk
     exact row_type HRA.out (Below.heap_alloc wr _ _ (by have:=(HLB.out _ (by rw [e];rfl)).2;omega) |>.trans h2) (by decide) q)
   obtain ⟨w4,hw4⟩:∃ w4,w3.setCell ⟨R,6,none⟩ (.slice (some ⟨gA,0,none⟩) (k0+1) cA)=w4:=⟨_,rfl⟩
   have kb4:∀ b,b≠R→w4.heap[b]?=w3.heap[b]?:=fun b hb=>by rw [← hw4];exact Below.heap_setCell w3 ⟨R,6,none⟩ _ b hb
   have hs4:w4.heap.size=w3.heap.size:=by rw [← hw4];simp
   have hRw4:w4.heap[R]?=some (.cells (cs.setIfInBounds 6 (.slice (some ⟨gA,0,none⟩) (k0+1) cA)) 53 (0,0)):=by rw [← hw4];simp only [World.setCell,Array.getElem?_modify,if_true,hRw3];simp
   have t6:w4.cell? ⟨R,6,none⟩=some (.slice (some ⟨gA,0,none⟩) (k0+1) cA):=by rw [← hw4];exact World.cell?_setCell_same _ _ _ s6
   have t7:w4.cell? ⟨R,7,none⟩=some (.slice pb k0 qb):=by rw [← hw4];exact (World.cell?_setCell_other _ _ _ _ (by simp)).trans s7
   have u7:w4.frozen? ⟨R,7,none⟩=false:=by simp [World.frozen?,hRw4]
   have rB4:w4.ownsRow lo 3 1 (.slice pb k0 qb) k0 (E.map fun e=>.int .i64 (e.n:Int)):=rowB rB3 fun k hk=>kb4 k (fun e=>row_type rB3 hRw3 (by decide) (e ▸ hk))
   have hgo:=(World.ownsRow.lt hown gA rfl)
   obtain ⟨hgAc,hgAt⟩:∃ cur,w3.heap[gA]?=some (.cells cur 31 (0,0)):=by
    obtain ⟨_,⟨e,_⟩ | ⟨g,cap,cur,e,h1,h2,_⟩⟩:=hown
    ·cases e
    ·injection e with e1 _ _
     injection e1 with e1
     injection e1 with e1 _
     subst e1
     exact ⟨cur,h2⟩
   have nAR:gA≠R:=fun e=>by rw [e,hRw3] at hgAt;cases hgAt
   have own4:w4.ownsRow lo 31 1 (.slice (some ⟨gA,0,none⟩) (k0+1) cA) (k0+1) (E.map En.sl++[.slice (some ⟨F,0,none⟩) (n+40) c3]):=rowB hown fun k hk=>kb4 k (fun e=>nAR (by cases hk;exact e))
   have HI4:Hid (∀ i,i<26→¬ (6≤i∧i<8)→w4.cell? ⟨R,i,none⟩=some (.slice none 0 0)):=fun i h1 h2=>by
    rw [← hw4]
    refine (World.cell?_setCell_other _ _ _ _ (by intro e;injection e with _ e2 _;omega)).trans ?_
    exact (World.cell?_of_block ((kb3 R (by omega) nRA).trans (HGW.out.block R hR))).trans (hidl i h1 h2)
   obtain ⟨D0,hD0⟩:∃ D0,w4.heap.size=D0:=⟨_,rfl⟩
   have HRB4:=hid (World.ownsRow.alloc rB4 (.cells #[.int .i64 (n:Int)] 3))
   have HLB4:=hid (World.ownsRow.lt rB4)
   have nRD:¬ R=D0:=by omega
   have HALL:=hid (And.intro kb3 (And.intro kb4 (And.intro hRw4 (And.intro hFc3 (And.intro own4 (And.intro hgAt (And.intro hgo (And.intro nAR (And.intro hs3 (And.intro hs4 hat))))))))))
   have HGR:=hid hgr
   clear hown hgr hlt3 kb3 kb4 hRw3 rB3 rB4 own4 hgAt hgo hFc3 s7 hat hs4 hs3
   go_upto_region 9 with (at_builtin;refine wpList_append_lies _ rfl _ _ _ rfl lo 3 l0 _ 1 8 Tryz.underlying39 hl hx0 hx1 hx2 rfl (by omega) (.slice pb k0 qb) k0 (E.map fun e=>.int .i64 (e.n:Int)) rfl HRB4.out ⟨D0,0,none⟩ 1 1 [.int .i64 (n:Int)] rfl rfl ?d1 ?d2 (by omega) (by unfold maxLen;omega) (by omega) ?d3 (D0+1) ?d4 ?_)
   case d1=>
    intro i u hj2
    match i,hj2 with
    | 0,hj2=>simp at hj2;subst hj2;rw [← hD0];simp [Addr.add]
   case d2=>intro u hu;simp at hu;subst hu;rfl
   case d3=>obtain ⟨_,_,_,_,_,_,_,_,hs3,hs4,_⟩:=HALL.out;simp;omega
   case d4=>simp [hD0]
   intro gb cb w5 hown hgr hat5 hlt5
   obtain ⟨kb3,kb4,hRw4,hFc3,own4,hgAt,hgo,nAR,hs3,hs4,hat⟩:=HALL.out
   have kb5:∀ b,b<D0→(Value.slice pb k0 qb).ownBlock≠some b→w5.heap[b]?=w4.heap[b]?:=fun b hb hne=>(hgr.block b (by simp;omega) (fun e=>hne e.symm)).trans (Below.heap_alloc w4 _ b (by omega))
   have hs5:D0+1≤w5.heap.size:=by have:=hgr.size;simp at this;omega
   have nRB:=row_type HRB4.out (Below.heap_alloc w4 _ R (by omega) |>.trans hRw4) (by decide)
   have nFR:F≠R:=fun e=>by rw [e,hRw] at hFc;cases hFc
   have hFc4:w4.heap[F]?=some (.cells Fc 66 (0,0)):=(kb4 F nFR).trans hFc3
   have nFB:=row_type HRB4.out (Below.heap_alloc w4 _ F (by omega) |>.trans hFc4) (by decide)
   have hgA4:w4.heap[gA]?=some (.cells hgAc 31 (0,0)):=(kb4 gA nAR).trans hgAt
   have nAB:=row_type HRB4.out (Below.heap_alloc w4 _ gA (by omega) |>.trans hgA4) (by decide)
   have hRw5:=(kb5 R (by omega) nRB).trans hRw4
   have hFc5:=(kb5 F (by omega) nFB).trans hFc4
   have hgA5:=(kb5 gA (by omega) nAB).trans hgA4
   have v7:w5.cell? ⟨R,7,none⟩=some (.slice pb k0 qb):=(World.cell?_of_block (kb5 R (by omega) nRB)).trans t7
   have x7:w5.frozen? ⟨R,7,none⟩=false:=by simp [World.frozen?,hRw5]
   obtain ⟨w6,hw6⟩:∃ w6,w5.setCell ⟨R,7,none⟩ (.slice (some ⟨gb,0,none⟩) (k0+1) cb)=w6:=⟨_,rfl⟩
   have kb6:∀ b,b≠R→w6.heap[b]?=w5.heap[b]?:=fun b hb=>by rw [← hw6];exact Below.heap_setCell w5 ⟨R,7,none⟩ _ b hb
   have hs6:w6.heap.size=w5.heap.size:=by rw [← hw6];simp
   obtain ⟨hgbc,hgbt⟩:∃ cur,w5.heap[gb]?=some (.cells cur 3 (0,0)):=by
    obtain ⟨_,⟨e,_⟩ | ⟨g,cap,cur,e,h1,h2,_⟩⟩:=hown
    ·cases e
    ·injection e with e1 _ _
     injection e1 with e1
     injection e1 with e1 _
     subst e1
     exact ⟨cur,h2⟩
   have nBR:gb≠R:=fun e=>by rw [e,hRw5] at hgbt;cases hgbt
   have nFgA:F≠gA:=fun e=>by rw [e,hgAt] at hFc3;cases hFc3
   have nFgb:F≠gb:=fun e=>by rw [e,hgbt] at hFc5;cases hFc5
   have own6A:w6.ownsRow lo 31 1 (.slice (some ⟨gA,0,none⟩) (k0+1) cA) (k0+1) (E.map En.sl++[.slice (some ⟨F,0,none⟩) (n+40) c3]):=rowB own4 fun k hk=>by
    cases hk
    exact (kb6 _ nAR).trans (kb5 _ (by omega) nAB)
   have own6B:w6.ownsRow lo 3 1 (.slice (some ⟨gb,0,none⟩) (k0+1) cb) (k0+1) ((E.map fun e=>.int .i64 (e.n:Int))++[.int .i64 (n:Int)]):=rowB hown fun k hk=>by
    cases hk
    exact kb6 _ nBR
   have kF:w6.heap[F]?=wr.heap[F]?:=((kb6 F nFR).trans (kb5 F (by omega) nFB)).trans ((kb4 F nFR).trans (kb3 F (by omega) nFA))
   have own6:OwnsR w6 B0 (.slice (some ⟨F,0,none⟩) (n+40) c3) (L++mksC 40):=rowB HOC.out fun k hk=>by
    cases hk
    exact kF
   obtain ⟨_,_,_,_,_,hBB⟩:=HROOM.out
   rw [hk0] at hBB
   have kAll:∀ b,b<B0→b≠R→(Value.slice pa k0 qa).ownBlock≠some b→(Value.slice pb k0 qb).ownBlock≠some b→w6.heap[b]?=w.heap[b]?:=fun b hb h1 h2 h3=>
    ((kb6 b h1).trans (kb5 b (by omega) h3)).trans ((kb4 b h1).trans ((kb3 b (by omega) h2).trans (HGW.out.block b (by omega))))
   have kOut:∀ b,b<B0→¬ B b→w6.heap[b]?=w.heap[b]?∧¬ (b=R∨b=gA∨b=gb):=fun b hb hB=>by
    have h1:b≠R:=fun e=>hB ((hBB b).2 (.inl e))
    have h2:(Value.slice pa k0 qa).ownBlock≠some b:=fun e=>hB ((hBB b).2 (.inr (.inl e)))
    have h3:(Value.slice pb k0 qb).ownBlock≠some b:=fun e=>hB ((hBB b).2 (.inr (.inr e)))
    refine ⟨kAll b hb h1 h2 h3,?_⟩
    rintro (e | e | e)
    ·exact h1 e
    ·rcases hat with h | h
     ·exact h2 (e ▸ h)
     ·omega
    ·rcases hat5 with h | h
     ·exact h3 (e ▸ h)
     ·omega
   have hmkF:∀ j,j<40→Lies w6 F ((n+j)*71) (cc (mkC j)):=fun j hj3=>by
    have hm:(L++mksC 40)[n+j]?=some (mkC j):=by
     rw [List.getElem?_append_right (by rw [HN.out];omega),HN.out,Nat.add_sub_cancel_left]
     simp [mksC,hj3]
    obtain ⟨g,o,e,hl⟩:=own6.hasq.has.at hm
    cases e
    rw [Nat.zero_add] at hl
    exact hl
   have ROOM:Hid (RoomOk w6 lo R (E++[⟨F,n,c3⟩]) (fun b=>b=R∨b=gA∨b=gb)):=by
    refine ⟨.slice (some ⟨gA,0,none⟩) (k0+1) cA,.slice (some ⟨gb,0,none⟩) (k0+1) cb,⟨_,by rw [← hw6];simp only [World.setCell,Array.getElem?_modify,if_true,hRw5];rfl⟩,fun i h1 h2=>?_,?_,?_,?_,?_,?_,?_⟩
    ·rw [← hw6]
     refine (World.cell?_setCell_other _ _ _ _ (by intro e;injection e with _ e2 _;omega)).trans ?_
     exact (World.cell?_of_block (kb5 R (by omega) nRB)).trans (HI4.out i h1 h2)
    ·rw [← hw6]
     exact (World.cell?_setCell_other _ _ _ _ (by simp)).trans ((World.cell?_of_block (kb5 R (by omega) nRB)).trans t6)
    ·rw [← hw6];exact World.cell?_setCell_same _ _ _ v7
    ·rw [List.length_append,hk0,List.map_append];exact own6A
    ·rw [List.length_append,hk0,List.map_append];exact own6B
    ·intro e he
     rcases List.mem_append.1 he with he | he
     ·obtain ⟨q1,q2⟩:=hmk e he
      have hlt:e.F<B0:=by
       have:=World.block_lt_of_cell? w _ (q2 0 (by omega) 0 _ (Array.getElem?_eq_some_iff.2 ⟨by rw [jl];omega,rfl⟩))
       simp at this
       omega
      obtain ⟨k1,k2⟩:=kOut e.F hlt q1
      exact ⟨k2,fun j hj3 i u hu=>(World.cell?_of_block k1).trans (q2 j hj3 i u hu)⟩
     ·simp at he
      subst he
      exact ⟨fun h=>h.elim nFR (fun h=>h.elim nFgA nFgb),hmkF⟩
    ·intro b
     constructor
     ·rintro (h | h | h)
      ·exact .inl h
      ·exact .inr (.inl (by rw [h];rfl))
      ·exact .inr (.inr (by rw [h];rfl))
     ·rintro (h | h | h)
      ·exact .inl h
      ·exact .inr (.inl (by cases h;rfl))
      ·exact .inr (.inr (by cases h;rfl))
   have BEL:Hid (Below lo w w6):=by
    have a1:=HGW.out
    have a2:=HGR.out
    refine ⟨?_,?_,?_,?_,fun k hk=>kAll k (by omega) (by omega) (fun e=>?_) (fun e=>?_)⟩
    ·rw [← hw6];show w5.os=_;rw [hgr.os];show w4.os=_;rw [← hw4];show w3.os=_;rw [a2.os];exact a1.os
    ·rw [← hw6];show w5.tape=_;rw [hgr.tape];show w4.tape=_;rw [← hw4];show w3.tape=_;rw [a2.tape];exact a1.tape
    ·rw [← hw6];show w5.output=_;rw [hgr.output];show w4.output=_;rw [← hw4];show w3.output=_;rw [a2.output];exact a1.output
    ·omega
    ·have:=(HLA.out k e).1;omega
    ·have:=(HLB.out k e).1;omega
   have hcap:n+40≤c3:=by
    obtain ⟨_,⟨e,_⟩ | ⟨g,cap,cur,e,_,_,hc,_⟩⟩:=HOC.out
    ·cases e
    ·injection e with _ _ e3
     rw [List.length_append,HN.out,mksC_len] at hc
     omega
   have hcI:(n:Int)+40≤(c3:Int):=by omega
   have FIN:=hid (And.intro hFB (And.intro (show ¬ (F=R∨F=gA∨F=gb) from fun h=>h.elim nFR (fun h=>h.elim nFgA nFgb)) (And.intro own6 kOut)))
   clear hown hgr hat5 hlt5 kb3 kb4 hRw4 hFc3 own4 hgAt hgo nAR hs3 hs4 hat kb5 hs5 hFc4 nFB hgA4 nAB hRw5 hFc5 hgA5 kb6 hs6 hgbt nBR nFgA nFgb own6A own6B kF own6 hBB kAll kOut hmkF t6 t7 u7 hw4 HRA HRB4 s6 f6 r6 r7
   go_wp2
   go_ret
   rw [hB0]
   exact ⟨F,c3,_,rfl,ROOM.out,FIN.out.1,FIN.out.2.1,FIN.out.2.2.1,FIN.out.2.2.2,BEL.out⟩
theorem lay5_any (lo R:Nat) (E:List En) (B:Nat→Prop) (ao:Option Addr) (cp:Nat) (L:List Cd) (w:World) (hv:HasA w (.slice ao L.length cp) L) (hn:L.length≤10000) (hE:E.length≤5) (hr:RoomOk w lo R E B) (hlo:lo≤w.heap.size) (hRlo:lo≤R):
  Calls Tryz.prog 9 #[.pointer (some ⟨R,0,none⟩),.slice ao L.length cp] w fun e w'=>∃ F c B',e=.returned (.slice (some ⟨F,0,none⟩) L.length (L.length+40))∧RoomOk w' lo R (E++[⟨F,L.length,c⟩]) B'∧w.heap.size≤F∧¬ B' F∧OwnsR w' w.heap.size (.slice (some ⟨F,0,none⟩) (L.length+40) c) (L++mksC 40)∧(∀ b,b<w.heap.size→¬ B b→w'.heap[b]?=w.heap[b]?∧¬ B' b)∧Below lo w w':=by
 have CL:=lay_any lo R E B ao cp L w hv hn hE hr hlo hRlo
 clear hv hr
 go_enter Tryz.func9,Tryz.ntmps9
 go_wp2_with (go_at_call 30;refine CL.mono ?_;rintro e wq ⟨F,c,B',rfl,h⟩)
 go_ret
 exact ⟨F,c,B',rfl,h⟩
noncomputable abbrev o45x9:Array Oper:=opsAt Tryz.f45 9
theorem backH:backB o45x9=true:=by kernel_rfl
theorem dstH:dstB o45x9 53=true:=by kernel_rfl
theorem sizeH:o45x9.size=7:=by kernel_rfl
theorem freeH4:freeB o45x9 4=true:=by kernel_rfl
theorem freeH5:freeB o45x9 5=true:=by kernel_rfl
theorem freeH6:freeB o45x9 6=true:=by kernel_rfl
theorem sH_0:say o45x9 0=some (some 46,.load 66 (.tmp 6),none):=by kernel_rfl
theorem dH_0:slotB o45x9 0=some 46:=by kernel_rfl
theorem sH_1:say o45x9 1=some (some 47,.move (.tmp 5),none):=by kernel_rfl
theorem dH_1:slotB o45x9 1=some 47:=by kernel_rfl
theorem sH_2:say o45x9 2=some (some 48,.move (.tmp 4),none):=by kernel_rfl
theorem dH_2:slotB o45x9 2=some 48:=by kernel_rfl
theorem sH_3:say o45x9 3=some (some 49,.binOp .sub 3 (.tmp 47) (.tmp 48) 3,none):=by kernel_rfl
theorem dH_3:slotB o45x9 3=some 49:=by kernel_rfl
theorem sH_4:say o45x9 4=some (some 50,.call { callee:=.value (.func 72),args:=#[.tmp 49],argTypes:=#[3] },none):=by kernel_rfl
theorem dH_4:slotB o45x9 4=some 50:=by kernel_rfl
theorem sH_5:say o45x9 5=some (some 51,.build 66 #[(0,.tmp 50)],none):=by kernel_rfl
theorem dH_5:slotB o45x9 5=some 51:=by kernel_rfl
theorem sH_6:say o45x9 6=some (some 52,.binOp .neq 66 (.tmp 46) (.tmp 51) 66,none):=by kernel_rfl
def VH (n j:Nat) (Z:Array Value) (lv:ByteArray):Nat→Value
 | 0=>.agg Z
 | 1=>.int .i64 ((n:Int)+(j:Int))
 | 2=>.int .i64 (n:Int)
 | 3=>.int .i64 (j:Int)
 | 4=>.string lv
 | 5=>.agg Z
 | 6=>.bool false
 | _=>undef
theorem regH (n j:Nat) (Z:Array Value) (lv:ByteArray) (BB:Nat) (t0:Array Value) (wr:World) {Q:Exit→Act→World→Prop} (ht:t0.size=53) (h4:t0.getD 4 undef=.int .i64 (n:Int)) (h5:t0.getD 5 undef=.int .i64 ((n:Int)+(j:Int))) (h6:t0.getD 6 undef=.pointer (some ⟨BB,0,none⟩))
  (hj:j≤1000) (hZ:Z=cc (chP lv)) (hlv:wordT j=lv) (ha:Lies wr BB 0 Z)
  (hQ:∀ w,Drew wr w→Q .normal ⟨fold o45x9 (VH n j Z lv) t0 7,[]⟩ w):(Code.region 9 o45x9 true).wp Tryz.prog Q ⟨t0,[]⟩ wr:=by
 have hB:dstB o45x9 t0.size=true:=by rw [ht];exact dstH
 have h0M:Drew wr wr.drew:=⟨1,rfl⟩
 have e9:(n:Int)+(j:Int)-(n:Int)=(j:Int):=by omega
 have wj:IntKind.i64.wrap (j:Int)=(j:Int):=by rw [IntKind.wrap_i64]<;>omega
 refine jk (by kernel_rfl) (IV o45x9 (VH n j Z lv) t0 (fun _ w=>Drew wr w)) backH ⟨t0,rfl,⟨rfl,fun _ _=>rfl,fun _ _ _ _ _ h=>by cases h⟩,h0M⟩ ?_ ?_
 rotate_left 1
 ·rintro done a w ⟨t,rfl,hS,hw⟩ hall
  rw [hS.end hB hall,sizeH]
  exact hQ w hw
 ·rintro jz op done a w ho ⟨t,rfl,hS,hw⟩ hnd hdep hcl
  have e4:t[4]?.getD undef=.int .i64 (n:Int):=(hS.old freeH4).trans h4
  have e5:t[5]?.getD undef=.int .i64 ((n:Int)+(j:Int)):=(hS.old freeH5).trans h5
  have e6:t[6]?.getD undef=.pointer (some ⟨BB,0,none⟩):=(hS.old freeH6).trans h6
  have hlt:jz<7:=by rw [← sizeH];exact (Array.getElem?_eq_some_iff.1 ho).1
  match jz,hlt,ho,hnd,hdep with
  | 0,_,ho,hnd,hdep=>
   obtain ⟨hd,hop,hgd⟩:=jC sH_0 ho
   refine jF hB ho (jB hgd) hd hS hw ?_
   exact exec_load (a:=⟨t,[]⟩) 66 _ hop BB 0 (by show t.getD 6 undef=_;rw [Array.getD_eq_getD_getElem?];exact e6) Z _ (ha.drew hw) under55 rfl (by rw [size55,hZ,jl])
  | 1,_,ho,hnd,hdep=>
   obtain ⟨hd,hop,hgd⟩:=jC sH_1 ho
   refine jF hB ho (jB hgd) hd hS hw ?_
   unfold execOp
   simp only [hop]
   simp [e5,VH,go_sem]
  | 2,_,ho,hnd,hdep=>
   obtain ⟨hd,hop,hgd⟩:=jC sH_2 ho
   refine jF hB ho (jB hgd) hd hS hw ?_
   unfold execOp
   simp only [hop]
   simp [e4,VH,go_sem]
  | 3,_,ho,hnd,hdep=>
   obtain ⟨hd,hop,hgd⟩:=jC sH_3 ho
   have x47:=hS.gt dH_1 ho hdep
   simp only [VH] at x47
   have x48:=hS.gt dH_2 ho hdep
   simp only [VH] at x48
   refine jF hB ho (jB hgd) hd hS hw ?_
   unfold execOp
   simp only [hop]
   simp [x47,x48,e9,wj,VH,go_sem]
  | 4,_,ho,hnd,hdep=>
   obtain ⟨hd,hop,hgd⟩:=jC sH_4 ho
   have x49:=hS.gt dH_3 ho hdep
   simp only [VH] at x49
   refine iv_callG 72 #[.int .i64 (j:Int)] hB ho (jB hgd) hd hS ?_ ?_
   ·skip
    unfold execOp
    simp only [hop]
    simp [x49,go_sem]
   ·exact (word_any j w (by omega)).mono fun e w2 h=>⟨by rw [h.1,hlv];rfl,h.2 ▸ hw⟩
  | 5,_,ho,hnd,hdep=>
   obtain ⟨hd,hop,hgd⟩:=jC sH_5 ho
   have x50:=hS.gt dH_4 ho hdep
   simp only [VH] at x50
   refine jF hB ho (jB hgd) hd hS hw ?_
   have e5:=exec_build55p (a:=⟨t,[]⟩) _ hop lv (by show t.getD 50 undef=_;rw [Array.getD_eq_getD_getElem?];exact x50) w
   rw [← hZ] at e5
   exact e5
  | 6,_,ho,hnd,hdep=>
   obtain ⟨hd,hop,hgd⟩:=jC sH_6 ho
   have x46:=hS.gt dH_0 ho hdep
   simp only [VH] at x46
   have x51:=hS.gt dH_5 ho hdep
   simp only [VH] at x51
   refine jF hB ho (jB hgd) hd hS hw ?_
   exact exec_neq55' (a:=⟨t,[]⟩) _ _ hop Z Z (by show t.getD 46 undef=_;rw [Array.getD_eq_getD_getElem?];exact x46) (by show t.getD 51 undef=_;rw [Array.getD_eq_getD_getElem?];exact x51) (chP lv) (chP lv) hZ hZ false (by simp) _
theorem foldH (n j:Nat) (Z:Array Value) (lv:ByteArray) (t0:Array Value):fold o45x9 (VH n j Z lv) t0 7=(((((((t0.setIfInBounds 46 (.agg Z)).setIfInBounds 47 (.int .i64 ((n:Int)+(j:Int)))).setIfInBounds 48 (.int .i64 (n:Int))).setIfInBounds 49 (.int .i64 (j:Int))).setIfInBounds 50 (.string lv)).setIfInBounds 51 (.agg Z)).setIfInBounds 52 (.bool false)):=by kernel_rfl
theorem row_get {w:World} {lo e n:Nat} {v:Value} {xs:List Value} (h:w.ownsRow lo e 1 v n xs) {i:Nat} (hi:i<n):∃ g c,v=.slice (some ⟨g,0,none⟩) n c∧w.cell? ⟨g,i,none⟩=xs[i]?:=by
 have h0:=h
 obtain ⟨_,⟨_,e⟩ | ⟨g,cap,cur,rfl,_⟩⟩:=h
 ·omega
 ·exact ⟨g,cap,rfl,World.ownsRow.cellAt h0 i (by omega)⟩
theorem hold23_any (lo R:Nat) (E:List En) (B:Nat→Prop) (w:World) (h:RoomOk w lo R E B) (hE:E.length≤5) (hn:∀ e∈E,e.n≤10000):Calls Tryz.prog 45 #[.pointer (some ⟨R,0,none⟩)] w fun e w'=>e=.returned (.bool true)∧Below w.heap.size w w':=by
 have HR:=hid h
 have HN:=hid hn
 obtain ⟨k0,hk0⟩:∃ k0,E.length=k0:=⟨_,rfl⟩
 rw [hk0] at hE
 have HK:=hid hk0
 clear h hn hk0
 go_enter Tryz.func45,Tryz.ntmps45
 go_wp2
 go_loopg [3] k0 (fun gh i wr=>∃ k:Nat,k≤k0∧gh=k0-k∧i=.int .i64 (k:Int)∧Hid (Below w.heap.size w wr))
 case atStart=>exact ⟨0,by omega,rfl,rfl,Below.refl _ w⟩
 case round=>
  obtain ⟨k,hk,rfl,rfl,HG⟩:=hrel
  by_cases hlt:k<k0
  ·obtain ⟨en,hen⟩:∃ en,E[k]?=some en:=⟨E[k]'(by rw [HK.out];exact hlt),by simp⟩
   obtain ⟨F,n,c⟩:=en
   have hmem:(⟨F,n,c⟩:En)∈E:=List.mem_of_getElem? hen
   have hnn:n≤10000:=HN.out _ hmem
   obtain ⟨va,vb,_,_,c6,c7,rA,rB,hm,_⟩:=HR.out.below HG.out
   rw [HK.out] at rA rB
   obtain ⟨gA,cA,rfl,qa⟩:=row_get rA hlt
   obtain ⟨gB,cB,rfl,qb⟩:=row_get rB hlt
   have qa':wr.cell? ⟨gA,k,none⟩=some (.slice (some ⟨F,0,none⟩) (n+40) c):=by rw [qa,List.getElem?_map,hen];rfl
   have qb':wr.cell? ⟨gB,k,none⟩=some (.int .i64 (n:Int)):=by rw [qb,List.getElem?_map,hen];rfl
   have kI:(k:Int)<(k0:Int):=by omega
   have k00:(0:Int)≤(k:Int):=by omega
   have HEN:=hid (And.intro hen hmem)
   clear rA rB hm qa qb hen hmem
   go_upto_block 2 with fail
   clear c6 c7 qa' qb'
   go_wp2_with fail
   go_loopg [5] 40 (fun gh i wq=>∃ j:Nat,j≤40∧gh=40-j∧i=.int .i64 ((n:Int)+(j:Int))∧Hid (Below w.heap.size w wq))
   case atStart=>exact ⟨0,by omega,rfl,by simp,HG.out⟩
   case round=>
    obtain ⟨j,hj,rfl,rfl,HG2⟩:=hrel
    obtain ⟨va,vb,_,_,c6,_,rA,_,hm,_⟩:=HR.out.below HG2.out
    rw [HK.out] at rA
    obtain ⟨gA,cA,rfl,qa⟩:=row_get rA hlt
    have qa':wr.cell? ⟨gA,k,none⟩=some (.slice (some ⟨F,0,none⟩) (n+40) c):=by rw [qa,List.getElem?_map,HEN.out.1];rfl
    have hm2:=(hm _ HEN.out.2).2
    simp only at hm2
    have HM:=hid hm2
    clear rA qa hm hm2
    by_cases hj2:j<40
    ·have jI:(n:Int)+(j:Int)<(n:Int)+40:=by omega
     have j0:(0:Int)≤(n:Int)+(j:Int):=by omega
     have jN:((n:Int)+(j:Int)).toNat=n+j:=by omega
     obtain ⟨lv,hlv⟩:∃ lv,wordT j=lv:=⟨_,rfl⟩
     obtain ⟨Z,hZ⟩:∃ Z,Z=cc (chP lv):=⟨_,rfl⟩
     have HZ:Hid (Z=cc (chP lv)∧Z.size=71∧Z.all (·.oneCell')=true):=⟨hZ,by rw [hZ];exact jl _,by rw [hZ];exact cc_one _⟩
     have HL:Hid (Lies wr F ((n+j)*71) Z):=by have:=HM.out j hj2;rw [mkC,hlv,← hZ] at this;exact this
     obtain ⟨BB,hBB⟩:∃ BB,wr.heap.size=BB:=⟨_,rfl⟩
     have HA1:Hid ((wr.alloc (.cells z55 66)).heap[BB]?=some (.cells z55 66 (0,0))):=by rw [← hBB];exact heap_alloc_new _ _
     have n1:=new_varT wr 66 z55 Z
     rw [hBB] at n1
     obtain ⟨w6,hw6⟩:∃ w6,(wr.alloc (.cells z55 66)).setRow BB Z=w6:=⟨_,rfl⟩
     rw [hw6] at n1
     have HL6:Hid (Lies w6 BB 0 Z):=fun i u hi=>by simp only [World.cell?,n1.2.1,Nat.zero_add];exact hi
     have HG6:Hid (Below w.heap.size w w6):=Below.up HG2.out (by rw [hBB];exact n1.1)
     have HW6:=hid hw6
     clear hw6 hZ HM n1
     go_upto_region 9 with (first
      | ((with_reducible refine jJ (.agg Z) wr ?_ ?_ ?_);exact exec_load 66 _ rfl F ((n+j)*71) rfl Z _ HL.out under55 rfl (by rw [size55,HZ.out.2.1]);kernel_rfl)
      | ((with_reducible refine jJ (.pointer (some ⟨BB,0,none⟩)) (wr.alloc (.cells z55 66)) ?_ ?_ ?_);exact exec_allocT 66 z55 rfl zero55 _ _ hBB;kernel_rfl)
      | ((with_reducible refine jP w6 ?_ ?_ ?_);exact (by rw [← HW6.out];exact exec_storeT 66 _ _ rfl BB Z z55 rfl rfl _ HA1.out (by rw [size55,HZ.out.2.1]) (by rw [z55_size,HZ.out.2.1]) HZ.out.2.2);kernel_rfl))
     clear hBB HL c6 qa'
     go_simp
     refine regH n j Z lv BB _ w6 rfl rfl rfl rfl (by omega) HZ.out.1 hlv HL6.out ?_
     rintro wz hwz
     rw [foldH]
     have HGZ:Hid (Below w.heap.size w wz):=Below.up HG6.out hwz.below
     clear hwz
     go_simp
     go_wp2
     go_roundg (40-(j+1))
     case measure=>omega
     case rel=>exact ⟨j+1,by omega,rfl,by go_num,HGZ.out⟩
    ·obtain rfl:j=40:=by omega
     have jI:¬ (n:Int)+((40:Nat):Int)<(n:Int)+40:=by omega
     go_wp2
     go_roundg (k0-(k+1))
     case measure=>omega
     case rel=>exact ⟨k+1,by omega,rfl,by go_num,HG2.out⟩
  ·obtain rfl:k=k0:=by omega
   obtain ⟨va,vb,_,_,c6,_,rA,_,_,_⟩:=HR.out.below HG.out
   rw [HK.out] at rA
   obtain ⟨pa,qa,ea⟩:=row_form rA
   subst ea
   clear rA
   have kI:¬ (k:Int)<(k:Int):=by omega
   go_wp2
   go_ret
   exact ⟨rfl,HG.out⟩
theorem roomHold_any (lo R:Nat) (E:List En) (B:Nat→Prop) (w:World) (h:RoomOk w lo R E B) (hE:E.length≤5) (hn:∀ e∈E,e.n≤10000):Calls Tryz.prog 14 #[.pointer (some ⟨R,0,none⟩)] w fun e w'=>e=.returned (.bool true)∧Below w.heap.size w w':=
 room_by R w (fun w'=>Below w.heap.size w w') (hold23_any lo R E B w h hE hn) (fun w' hg=>by obtain ⟨_,_,_,hi,_⟩:=h.below hg;exact hi) (by obtain ⟨_,_,_,hi,_⟩:=h;exact hi)
def roomCells:Array Value:=#[.slice none 0 0,.slice none 0 0,.slice none 0 0,.slice none 0 0,.slice none 0 0,.slice none 0 0,.slice none 0 0,.slice none 0 0,.slice none 0 0,.slice none 0 0,.slice none 0 0,.slice none 0 0,.slice none 0 0,.slice none 0 0,.slice none 0 0,.slice none 0 0,.slice none 0 0,.slice none 0 0,.slice none 0 0,.slice none 0 0,.slice none 0 0,.slice none 0 0,.slice none 0 0,.slice none 0 0,.slice none 0 0,.slice none 0 0]
theorem built40:Tryz.prog.built 53 []=some roomCells:=by kernel_rfl
theorem room_cell (i:Nat) (h:i<26):roomCells[i]?=some (.slice none 0 0):=by
 match i,h with
 | 0,_ | 1,_ | 2,_ | 3,_ | 4,_ | 5,_ | 6,_ | 7,_ | 8,_ | 9,_ | 10,_ | 11,_ | 12,_ | 13,_ | 14,_ | 15,_ | 16,_ | 17,_ | 18,_ | 19,_ | 20,_ | 21,_ | 22,_ | 23,_ | 24,_ | 25,_=>rfl
 | n+26,h=>exact absurd h (by omega)
theorem wpList_new {ops:Array Oper} {rest:List Oper} {o1 o2:Oper} {a:Act} {w:World} {Q:Exit→Act→World→Prop} (t:TypeId) (cs:Array Value) (hb:Tryz.prog.built t []=some cs) (h1:o1.guard=none) (h2:o2.guard=none) (ho1:o1.op=.build t #[]) (x:Operand) (ho2:o2.op=.box t x)
  (hx:(a.put o1.dst (.agg cs)).eval x=.agg cs) (h:wpList Tryz.prog ops Q rest ((a.put o1.dst (.agg cs)).put o2.dst (.pointer (some ⟨w.heap.size,0,none⟩))) (w.alloc (.cells cs t))):wpList Tryz.prog ops Q (o1::o2::rest) a w:=by
 have em:(Array.map (fun (p:Nat × Operand)=>(p.1,a.eval p.2)) #[]).toList=[]:=by simp
 refine wpList_build h1 t #[] ho1 (by rw [em,hb];simp only [Option.isSome_some]) ?_
 rw [em,hb,Option.getD_some]
 refine wpList_plain h2 fun K hK=>?_
 unfold Oper.wp execOp
 have ec:(Value.agg cs).cells=cs:=rfl
 simp only [ho2,hx,Instr.box,newVar,Sem.run_bind,Sem.run_pure,ec]
 have hr:(newRow t cs).run Tryz.prog w=.ok ⟨w.heap.size,0,none⟩ (w.alloc (.cells cs t)):=by simp [newRow]
 rw [hr]
 exact hK _ _ h
theorem room_new (w:World) (lo:Nat):RoomOk (w.alloc (.cells roomCells 53)) lo w.heap.size [] (fun b=>b=w.heap.size):=by
 have h:(w.alloc (.cells roomCells 53)).heap[w.heap.size]?=some (.cells roomCells 53 (0,0)):=heap_alloc_new w _
 have hc:∀ i,i<26→(w.alloc (.cells roomCells 53)).cell? ⟨w.heap.size,i,none⟩=some (.slice none 0 0):=fun i hi=>(cell_of_row _ _ i _ _ _ h).trans (room_cell i hi)
 exact ⟨.slice none 0 0,.slice none 0 0,⟨_,h⟩,fun i h1 _=>hc i h1,hc 6 (by omega),hc 7 (by omega),World.ownsRow_nil _ _ _ _,World.ownsRow_nil _ _ _ _,by simp,fun b=>by simp [Value.ownBlock]⟩
end Go.Proofs.YthfcanpkhjgomaaGreat.Ch
namespace Go.Proofs.YthfcanpkhjgomaaGreat.Ch
open Go.RowKit
theorem over_mid (A M B vs:List Value) (j:Nat) (h:j+vs.length≤M.length):over (A++(M++B)) (A.length+j) vs=A++(over M j vs++B):=by
 unfold over
 have t:(A++(M++B)).take (A.length+j)=A++M.take j:=by
  rw [List.take_length_add_append,List.take_append_of_le_length (by omega)]
 have d:(A++(M++B)).drop (A.length+j+vs.length)=M.drop (j+vs.length)++B:=by
  rw [Nat.add_assoc,List.drop_length_add_append,List.drop_append_of_le_length (by omega)]
 rw [t,d]
 simp [List.append_assoc]
theorem flat_over_at {L:List Cd} {i:Nat} {x x':Cd} {j:Nat} {vs:List Value} (h:L[i]?=some x) (hj:j+vs.length≤71) (e:(cc x').toList=over (cc x).toList j vs):over (rcs L) (i*71+j) vs=rcs (L.set i x'):=by
 have hi:=(List.getElem?_eq_some_iff.1 h).1
 have hx:=(List.getElem?_eq_some_iff.1 h).2
 have e1:rcs L=rcs (L.take i)++((cc x).toList++rcs (L.drop (i+1))):=by
  conv=>lhs;rw [← List.take_append_drop i L,List.drop_eq_getElem_cons hi,hx]
  rw [rcs_app]
  rfl
 have e2:rcs (L.set i x')=rcs (L.take i)++((cc x').toList++rcs (L.drop (i+1))):=by
  rw [List.set_eq_take_append_cons_drop,if_pos hi,rcs_app]
  rfl
 have hl:(rcs (L.take i)).length=i*71:=by rw [rcs_len,List.length_take,Nat.min_eq_left (by omega)]
 rw [e1,e2,e,← hl,over_mid]
 simp [jl]
 exact hj
theorem cc_setAll (c c':Cd):(cc c').toList=over (cc c).toList 0 (cc c').toList:=by
 have h1:(cc c).toList.length=71:=by rw [Array.length_toList,jl]
 have h2:(cc c').toList.length=71:=by rw [Array.length_toList,jl]
 unfold over
 rw [h2,List.drop_of_length_le (by omega),List.append_nil,List.take_zero,List.nil_append]
theorem set_in {w:World} {lo F M c k j:Nat} {L:List Cd} {x x':Cd} {vs:List Value} (h:OwnsR w lo (.slice (some ⟨F,0,none⟩) M c) L) (hM:L.length=M) (hx:L[k]?=some x) (hj:j+vs.length≤71) (e:(cc x').toList=over (cc x).toList j vs):
  OwnsR (w.setCells F (k*71+j) vs) lo (.slice (some ⟨F,0,none⟩) M c) (L.set k x')∧w.grownBy (w.setCells F (k*71+j) vs) (some F):=by
 have hk:=(List.getElem?_eq_some_iff.1 hx).1
 have h':w.ownsRow lo 66 71 (.slice (some ⟨F,0,none⟩) M c) M (rcs L):=by unfold OwnsR at h;rwa [hM] at h
 obtain ⟨h1,h2⟩:=qD vs (k*71+j) w (rcs L) h' (by rw [rcs_len];omega)
 rw [flat_over_at hx hj e] at h1
 refine ⟨?_,h2⟩
 unfold OwnsR
 rw [List.length_set,hM]
 exact h1
theorem marks_of {w:World} {lo F n c:Nat} {X:List Cd} (h:OwnsR w lo (.slice (some ⟨F,0,none⟩) (n+40) c) (X++mksC 40)) (hn:X.length=n):∀ j,j<40→Lies w F ((n+j)*71) (cc (mkC j)):=fun j hj=>by
 have hm:(X++mksC 40)[n+j]?=some (mkC j):=by
  rw [List.getElem?_append_right (by omega),hn,Nat.add_sub_cancel_left]
  simp [mksC,hj]
 obtain ⟨g,o,e,hl⟩:=(HasQ.has h.hasq).at hm
 cases e
 rw [Nat.zero_add] at hl
 exact hl
theorem x_of {w:World} {lo F n c cp:Nat} {X:List Cd} (h:OwnsR w lo (.slice (some ⟨F,0,none⟩) (n+40) c) (X++mksC 40)) (hn:X.length=n) (hc:n≤cp):HasA w (.slice (some ⟨F,0,none⟩) n cp) X:=by
 refine .inr ⟨F,0,cp,by rw [hn],by omega,fun i x hi=>?_⟩
 obtain ⟨g,o,e,hl⟩:=(HasQ.has h.hasq).at (i:=i) (x:=x) (by rw [List.getElem?_append_left (List.getElem?_eq_some_iff.1 hi).1];exact hi)
 cases e
 exact hl
structure Sp (W2:World) (R F c n:Nat) (B2:Nat→Prop) (X:List Cd) (wr:World):Prop where
 bel:Below R W2 wr
 sz:W2.heap.size=R
 room:RoomOk wr R R [⟨F,n,c⟩] B2
 o1:OwnsR wr R (.slice (some ⟨F,0,none⟩) (n+40) c) (X++mksC 40)
 lx:X.length=n
 f1:¬ B2 F
variable {W2 wr w':World} {R F c n:Nat} {B2:Nat→Prop} {X X':List Cd}
theorem Sp.go (h:Sp W2 R F c n B2 X wr) (hs:wr.heap.size≤w'.heap.size) (ho:w'.os=wr.os) (ht:w'.tape=wr.tape) (hu:w'.output=wr.output)
  (hb:∀ b,b<wr.heap.size→b≠F→w'.heap[b]?=wr.heap[b]?) (o1:OwnsR w' R (.slice (some ⟨F,0,none⟩) (n+40) c) (X'++mksC 40)) (lx:X'.length=n):Sp W2 R F c n B2 X' w':=by
 have g1:=(World.ownsRow.lt h.o1 F rfl).1
 refine ⟨⟨ho.trans h.bel.os,ht.trans h.bel.tape,hu.trans h.bel.output,Nat.le_trans h.bel.size hs,fun b hb'=>(hb b (by have:=h.bel.size;have:=h.sz;omega) (by omega)).trans (h.bel.block b hb')⟩,h.sz,
  h.room.keep (fun b hB=>hb b (h.room.lt b hB) (fun e=>h.f1 (e ▸ hB))) (fun e he j hj=>?_),o1,lx,h.f1⟩
 simp only [List.mem_cons,List.not_mem_nil,or_false] at he
 subst he
 exact marks_of o1 lx j hj
theorem Sp.up (h:Sp W2 R F c n B2 X wr) (hb:Below wr.heap.size wr w'):Sp W2 R F c n B2 X w':=
 h.go hb.size hb.os hb.tape hb.output (fun b h _=>hb.block b h) (h.o1.up hb) h.lx
theorem Sp.hold (h:Sp W2 R F c n B2 X wr) (hn:n≤10000):Calls Tryz.prog 14 #[.pointer (some ⟨R,0,none⟩)] wr fun e w'=>e=.returned (.bool true)∧Below wr.heap.size wr w':=
 roomHold_any _ R _ B2 wr h.room (by simp) (fun e he=>by
  simp only [List.mem_cons,List.not_mem_nil,or_false] at he
  subst he
  exact hn)
theorem Sp.set (h:Sp W2 R F c n B2 X wr) {k:Nat} {x x':Cd} (hx:X[k]?=some x):Sp W2 R F c n B2 (X.set k x') (wr.setCells F (k*71) (cc x').toList):=by
 have hk:=(List.getElem?_eq_some_iff.1 hx).1
 obtain ⟨h1,h2⟩:=set_in (k:=k) (j:=0) (vs:=(cc x').toList) h.o1 (by rw [List.length_append,mksC_len,h.lx]) (by rw [List.getElem?_append_left hk];exact hx) (by rw [Array.length_toList,jl];omega) (cc_setAll x x')
 rw [List.set_append_left _ _ hk] at h1
 rw [Nat.add_zero] at h1 h2
 exact h.go h2.size h2.os h2.tape h2.output (fun b hb n1=>h2.block b hb (fun e=>n1 (by cases e;rfl))) h1 (by rw [List.length_set,h.lx])
theorem Sp.there (h:Sp W2 R F c n B2 X wr) {k:Nat} (hk:k<n):wr.there F (k*71) 71:=by
 have hl:(X++mksC 40).length=n+40:=by rw [List.length_append,mksC_len,h.lx]
 have h':wr.ownsRow R 66 71 (.slice (some ⟨F,0,none⟩) (n+40) c) (n+40) (rcs (X++mksC 40)):=by have:=h.o1;unfold OwnsR at this;rwa [hl] at this
 exact owns_there h' _ _ (by rw [rcs_len,hl];omega)
theorem Sp.first (h:Sp W2 R F c n B2 X wr):∃ s q,wr.cell? ⟨F,0,none⟩=some (.string s)∧wr.cell? ⟨F,1,none⟩=some (.int .i64 q):=by
 obtain ⟨y,hy⟩:∃ y,(X++mksC 40)[0]?=some y:=⟨(X++mksC 40)[0]'(by rw [List.length_append,mksC_len];omega),by rw [List.getElem?_eq_getElem]⟩
 obtain ⟨g,o,e,hl⟩:=(HasQ.has h.o1.hasq).at hy
 cases e
 rw [Nat.zero_mul,Nat.add_zero] at hl
 have h1:=hl.path
 have h2:=hl.old 0 (.int .i64 y.old.kind) rfl
 exact ⟨_,_,h1,h2⟩
end Go.Proofs.YthfcanpkhjgomaaGreat.Ch
namespace Go.Proofs.YthfcanpkhjgomaaGreat
open Go.RowKit
theorem lies_far {w w':World} {B g:Nat} {c:Array Value} (hb:∀ b,b≠B→w'.heap[b]?=w.heap[b]?) (hl:Lies w g 0 c) (hne:g≠B):Lies w' g 0 c:=fun j x hj=>(World.cell?_of_block (a:=⟨g,0+j,none⟩) (hb g hne)).trans (hl j x hj)
theorem At.far {w w':World} {F:Nat} {s:ByteArray} {q:Int} (hb:∀ b,b≠F→w'.heap[b]?=w.heap[b]?) (h0:w.cell? ⟨F,0,none⟩=some (.string s)) (h1:w.cell? ⟨F,1,none⟩=some (.int .i64 q)):∀ {k:K} {x:Value},At w k x→At w' k x
 | .nil,_,q=>q
 | .node _ _ _ _ _ _ _ _,_,⟨e1,pk,pa,pb,⟨h2,h3⟩,h4,h5,h6⟩=>⟨e1,pk,pa,pb,⟨lies_far hb h2 (fun e=>by
   have hc:=h2 1 _ rfl
   rw [e] at hc
   have:=hc.symm.trans h1
   cases this),lies_far hb h3 (fun e=>by
   have hc:=h3 0 _ rfl
   rw [e] at hc
   have:=hc.symm.trans h0
   cases this)⟩,At.far hb h0 h1 h4,At.far hb h0 h1 h5,At.far hb h0 h1 h6⟩
theorem T1.far {w w':World} {F:Nat} {s:ByteArray} {q:Int} (hb:∀ b,b≠F→w'.heap[b]?=w.heap[b]?) (h0:w.cell? ⟨F,0,none⟩=some (.string s)) (h1:w.cell? ⟨F,1,none⟩=some (.int .i64 q)) (hF:¬ Tr w F) {p:Nat} {t:T3} (ht:T1 w p t):T1 w' p t:=by
 obtain ⟨k,⟨pk,g1,g2⟩,g3,g4,g5⟩:=ht
 have hT:∀ b,Tr w b→Tr w' b:=fun b ⟨c,h⟩=>⟨c,(hb b (fun e=>hF ⟨c,by rw [← e];exact h⟩)).trans h⟩
 refine ⟨k,⟨pk,lies_far hb g1 (fun e=>?_),g2.far hb h0 h1⟩,g3,K.all_monoR hT g4,g5.1,hT _ g5.2⟩
 have hc:=g1 0 _ rfl
 rw [e] at hc
 have:=hc.symm.trans h0
 cases this
theorem Ch.Sp.tree {W2 wr w':World} {R F c n:Nat} {B2:Nat→Prop} {X:List Ch.Cd} (h:Ch.Sp W2 R F c n B2 X wr) (hb:∀ b,b≠F→w'.heap[b]?=wr.heap[b]?) {p:Nat} {t:T3} (ht:T1 wr p t):T1 w' p t:=by
 obtain ⟨s,q,h0,h1⟩:=h.first
 exact ht.far hb h0 h1 fun ⟨c,hc⟩=>Ch.row_type h.o1 hc (by decide) rfl
theorem HasNP.far {wz w w':World} {B:Nat} {c:Array Value} {nm:ByteArray} {v:Vd} {m:Md} {ks:F} (h:HasNP w (NewC wz w) c nm v m ks) (hF:B<wz.heap.size) (hb:∀ b,b≠B→w'.heap[b]?=w.heap[b]?):HasNP w' (NewC wz w') c nm v m ks:=by
 obtain ⟨kv,rfl,hs⟩:=h
 refine ⟨kv,rfl,hs.keep fun b ⟨h1,o,h2,h3⟩=>?_⟩
 have h6:=hb b (by omega)
 exact ⟨h6,h1,o,h6.trans h2,h3⟩
end Go.Proofs.YthfcanpkhjgomaaGreat
