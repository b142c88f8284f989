import Derived.Test.YtjikkhbcbfpocaaGreatDoorWText
import Derived.StillTailTactics
set_option maxRecDepth 100000
set_option maxHeartbeats 1600000
namespace Go.Proofs.YtjikkhbcbfpocaaGreatDoor.Wi
open Go.RowKit Wire
def byteS (l:List Int) (s:St):Int × St:=
 if s.fe≠0 then (0,s) else if s.p<l.length then (l[s.p]?.getD 0,⟨s.p+1,s.fa,s.fe⟩) else (0,⟨s.p,l.length,10⟩)
def endS (l:List Int) (s:St):St:=if s.fe≠0 then s else if s.p<l.length then ⟨s.p,s.p,13⟩ else s
theorem oE (lo R:Nat) (l:List Int) (s:St) (w:World) (hr:RdS w lo R l s) (hf:s.fe≠0):
  Calls Tryz.prog 134 #[.pointer (some ⟨R,0,none⟩)] w fun e w'=>e=.returned (.int .u8 0)∧RdS w' lo R l s∧w.grownBy w' (some R):=by
 have HR:Hid (RdS w lo R l s):=hr
 obtain ⟨v,hh,ho,hk,hl,hp,hn⟩:=hr
 obtain ⟨h0,h1,h2,h3,h4,hfz⟩:=qN hh
 have hlt:R<w.heap.size:=(gS hh)
 have hfb:(s.fe !=0)=true:=by simpa using hf
 clear hh ho hk h0 h1 h2 h3 hfz
 have hmf':=hmf
 go_enter_defers Tryz.func134,Tryz.ntmps134
 go_wp2_with (go_at_call 93;refine (jh R s.fe _ (by simp [World.cell?_alloc_past _ _ _ hlt,h4])).mono ?_;rintro e w1 ⟨rfl,rfl⟩)
 refine leaves_cons (f:=165) (args:=#[.pointer (some ⟨w.heap.size,0,none⟩)]) (by simp) (by simp [go_sem]) ?_
 refine (bH w.heap.size R _ (by simp)).mono ?_
 rintro e u' w'' ⟨rfl,rfl,rfl⟩
 exact ⟨_,results_tmp rfl _ _ _,rfl,HR.out.grown (jI _ _),qK _ (jI _ _)⟩
theorem wO (lo R:Nat) (l:List Int) (p:Nat) (fa:Int) (w:World) (hr:RdS w lo R l ⟨p,fa,0⟩):
  Calls Tryz.prog 134 #[.pointer (some ⟨R,0,none⟩)] w fun e w'=>e=.returned (.int .u8 (byteS l ⟨p,fa,0⟩).1)∧RdS w' lo R l (byteS l ⟨p,fa,0⟩).2∧w.grownBy w' (some R):=by
 obtain ⟨v,hh,ho,hk,hl,hp,hn⟩:=hr
 obtain ⟨ao,cap,hv,hcap,hat⟩:=fO ho
 subst hv
 simp only at hh hp
 obtain ⟨h0,h1,h2,h3,h4,hfz⟩:=qN hh
 have hlt:R<w.heap.size:=(gS hh)
 have HH:Hid (w.heap[R]?=some (.cells #[.slice ao l.length cap,.int .i64 p,.int .i64 fa,.string ⟨#[]⟩,.int .i64 0] 158 (0,0))):=hh
 have HO:Hid (Owns w lo (.slice ao l.length cap) l):=ho
 have HK:Hid (∀ k,(Value.slice ao l.length cap).ownBlock=some k→k<R):=hk
 have HA:Hid (∀ i,i<l.length→∃ g,ao=some ⟨g,0,none⟩∧w.cell? ⟨g,i,none⟩=some (.int .u8 (l[i]?.getD 0))):=hat
 have HC0:Hid (∀ (w':World),Below w.heap.size w w'→w'.cell? ⟨R,0,none⟩=some (.slice ao l.length cap)):=fun w' hb=>(hb.cell hlt).trans h0
 clear hh ho hk h2 h3 hat
 have hmf':=hmf
 have hc1:∀ (o:Obj),(w.alloc o).cell? ⟨R,1,none⟩=some (.int .i64 p):=fun o=>by rw [World.cell?_alloc_past _ _ _ hlt];exact h1
 by_cases hpl:p<l.length
 ·have e1:byteS l ⟨p,fa,0⟩=(l[p]?.getD 0,⟨p+1,fa,0⟩):=by simp [byteS,hpl]
  rw [e1]
  obtain ⟨g,hg,hc⟩:=HA.out p hpl
  subst hg
  clear HA e1
  have HB:Hid (∀ (w':World),Below w.heap.size w w'→Calls Tryz.prog 129 #[.pointer (some ⟨R,0,none⟩),.int .i64 p] w' fun x w''=>x=.returned (.int .u8 (l[p]?.getD 0))∧w''=w'):=fun w' hb=>
   kw R p g l.length cap _ w' (HC0.out w' hb) hn hpl ((hb.cell (World.block_lt_of_cell? w _ hc)).trans hc)
  generalize l[p]?.getD 0=c at *
  clear hc
  go_enter_defers Tryz.func134,Tryz.ntmps134
  go_wp2_with (go_at_call 93;refine (jh R 0 _ (by simp [World.cell?_alloc_past _ _ _ hlt,h4])).mono ?_;rintro e w1 ⟨rfl,rfl⟩)
  go_quiet ((go_at_call 129;exact Calls.quiet_of_same (HB.out _ (by exact jS w _ _))))
  go_wp2
  refine leaves_cons (f:=165) (args:=#[.pointer (some ⟨w.heap.size,0,none⟩)]) (by simp) (by simp [go_sem]) ?_
  obtain ⟨Z1,Z2,Z3⟩:=RdS.moved HH.out HO.out HK.out hl hn (Obj.cells #[Value.pointer (some { block:=R,off:=0 })] 76) nq ((p:Int)+1) (p+1) (by simp) (by omega)
  refine (bH w.heap.size R _ (Z3.trans (by simp))).mono ?_
  rintro e u' w'' ⟨rfl,rfl,rfl⟩
  exact ⟨_,results_tmp rfl _ _ _,rfl,Z1,Z2⟩
 ·have e1:byteS l ⟨p,fa,0⟩=(0,⟨p,l.length,10⟩):=by simp [byteS,hpl]
  rw [e1]
  clear HA e1
  go_enter_defers Tryz.func134,Tryz.ntmps134
  go_wp2_with (go_at_call 93;refine (jh R 0 _ (by simp [World.cell?_alloc_past _ _ _ hlt,h4])).mono ?_;rintro e w1 ⟨rfl,rfl⟩)
  refine wp_region_still_tail 5 Tryz.mixed (by kernel_rfl) ?_
  change wpStill _ _ (World.drew _) (fun a'=>wpList _ _ _ _ a' (World.drew _)) _ _
  simp only [List.take_succ_cons,List.take_zero,List.drop_succ_cons,List.drop_zero]
  repeat still_step
  refine wpStill_nil ?_
  go_wp2_with (go_at_call 129;refine (eD R p ao l.length cap _ (HC0.out _ (by exact jI w _)) hn (by omega) (by omega)).mono ?_;rintro e w1 ⟨rfl,rfl⟩)
  refine leaves_cons (f:=165) (args:=#[.pointer (some ⟨w.heap.size,0,none⟩)]) (by simp) (by simp [go_sem]) ?_
  refine (lL w.heap.size R _ l.length 10 [] _ _ _ _ _ (by simp) (((jI w _).block R hlt).trans HH.out)).mono ?_
  rintro e u' w'' ⟨rfl,rfl,hr2,hg2⟩
  obtain ⟨Z1,Z2⟩:=RdS.noted HO.out HK.out hl hp hn (jI w _) hr2 hg2 HH.out
  exact ⟨_,results_tmp rfl _ _ _,rfl,Z1,Z2⟩
theorem uF (lo R:Nat) (l:List Int) (s:St) (w:World) (hr:RdS w lo R l s):
  Calls Tryz.prog 134 #[.pointer (some ⟨R,0,none⟩)] w fun e w'=>e=.returned (.int .u8 (byteS l s).1)∧RdS w' lo R l (byteS l s).2∧w.grownBy w' (some R):=by
 obtain ⟨p,fa,fe⟩:=s
 by_cases hf:fe=0
 ·subst hf;exact wO lo R l p fa w hr
 ·refine (oE lo R l _ w hr hf).mono ?_
  rintro e w' ⟨rfl,h1,h2⟩
  exact ⟨by simp [byteS,hf],by simpa [byteS,hf] using h1,h2⟩
theorem fT (lo R:Nat) (l:List Int) (s:St) (w:World) (hr:RdS w lo R l s):
  Calls Tryz.prog 62 #[.pointer (some ⟨R,0,none⟩)] w fun e w'=>e=.returned (.int .i64 s.p)∧w'=w:=by
 obtain ⟨v,hh,ho,hk,hl,hp,hn⟩:=hr
 obtain ⟨h0,h1,h2,h3,h4,hfz⟩:=qN hh
 clear hh ho hk h0 h2 h3 h4
 go_enter Tryz.func62,Tryz.ntmps62
 go_wp2
 go_ret
 exact ⟨rfl,rfl⟩
theorem mq (lo R:Nat) (l:List Int) (p:Nat) (fa:Int) (w:World) (hr:RdS w lo R l ⟨p,fa,0⟩):
  Calls Tryz.prog 99 #[.pointer (some ⟨R,0,none⟩)] w fun e w'=>e=.returned .nilIface∧w'=w:=by
 obtain ⟨v,hh,ho,hk,hl,hp,hn⟩:=hr
 obtain ⟨h0,h1,h2,h3,h4,hfz⟩:=qN hh
 clear hh ho hk h0 h1 h2 h3
 go_enter Tryz.func99,Tryz.ntmps99
 go_wp2_with (go_at_call 93;refine (jh R 0 _ h4).mono ?_;rintro e w1 ⟨rfl,rfl⟩)
 go_ret
 exact ⟨rfl,rfl⟩
theorem mr (lo R:Nat) (l:List Int) (s:St) (w:World) (hr:RdS w lo R l s) (hf:s.fe≠0):
  Calls Tryz.prog 99 #[.pointer (some ⟨R,0,none⟩)] w fun e w'=>e=.returned (.iface 72 (.pointer (some ⟨w.heap.size,0,none⟩)))∧w'=w.alloc (.cells #[.int .i64 s.fa,.string ⟨#[]⟩,.int .i64 s.fe] 93):=by
 obtain ⟨v,hh,ho,hk,hl,hp,hn⟩:=hr
 obtain ⟨h0,h1,h2,h3,h4,hfz⟩:=qN hh
 have hfb:(s.fe !=0)=true:=by simpa using hf
 clear hh ho hk h0 h1
 go_enter Tryz.func99,Tryz.ntmps99
 go_wp2_with (go_at_call 93;refine (jh R s.fe _ h4).mono ?_;rintro e w1 ⟨rfl,rfl⟩)
 go_ret
 exact ⟨rfl,rfl⟩
theorem Has.at {w:World} {v:Value} {l:List Int} (h:Has w v l) {k:Nat} (hk:k<l.length):∃ a cap,v=.slice (some a) l.length cap∧w.cell? (a.add k)=some (.int .u8 (l[k]?.getD 0)):=by
 rcases h with ⟨_,rfl⟩ | ⟨a,cap,rfl,_,hc⟩
 ·simp at hk
 ·exact ⟨a,cap,rfl,by simpa [List.getD] using hc k hk⟩
theorem wP (lo R:Nat) (l:List Int) (s:St) (w:World) (hr:RdS w lo R l s):
  Calls Tryz.prog 68 #[.pointer (some ⟨R,0,none⟩)] w fun e w'=>e=.returned (.tuple #[])∧RdS w' lo R l (endS l s)∧w.grownBy w' (some R):=by
 obtain ⟨p,fa,fe⟩:=s
 have HR:Hid (RdS w lo R l ⟨p,fa,fe⟩):=hr
 obtain ⟨v,hh,ho,hk,hl,hp,hn⟩:=hr
 obtain ⟨ao,cap,hv,hcap,hat⟩:=fO ho
 subst hv
 simp only at hh hp
 obtain ⟨h0,h1,h2,h3,h4,hfz⟩:=qN hh
 have hlt:R<w.heap.size:=(gS hh)
 have HH:Hid (w.heap[R]?=some (.cells #[.slice ao l.length cap,.int .i64 p,.int .i64 fa,.string ⟨#[]⟩,.int .i64 fe] 158 (0,0))):=hh
 have HO:Hid (Owns w lo (.slice ao l.length cap) l):=ho
 have HK:Hid (∀ k,(Value.slice ao l.length cap).ownBlock=some k→k<R):=hk
 have hmf':=hmf
 have hc1:∀ (o:Obj),(w.alloc o).cell? ⟨R,1,none⟩=some (.int .i64 p):=fun o=>by rw [World.cell?_alloc_past _ _ _ hlt];exact h1
 have hc0:∀ (o:Obj),(w.alloc o).cell? ⟨R,0,none⟩=some (.slice ao l.length cap):=fun o=>by rw [World.cell?_alloc_past _ _ _ hlt];exact h0
 have HF:Hid (∀ (w':World),Below w.heap.size w w'→Calls Tryz.prog 93 #[.pointer (some ⟨R,0,none⟩)] w' fun x w''=>x=.returned (.bool (fe !=0))∧w''=w'):=fun w' hb=>
  jh R fe w' ((hb.cell hlt).trans h4)
 clear hh ho hk h2 h3 h4 hat
 by_cases hf:fe=0
 ·subst hf
  have HF2:Hid (∀ (w':World),Below w.heap.size w w'→Calls Tryz.prog 93 #[.pointer (some ⟨R,0,none⟩)] w' fun x w''=>x=.returned (.bool false)∧w''=w'):=HF
  clear HF
  by_cases hpl:p<l.length
  ·have e1:endS l ⟨p,fa,0⟩=⟨p,p,13⟩:=by simp [endS,hpl]
   rw [e1]
   clear e1
   go_enter_defers Tryz.func68,Tryz.ntmps68
   go_wp2_with fail
   go_quiet ((go_at_call 93;exact Calls.quiet_of_same (HF2.out _ (by exact jS w _ _))))
   go_wp2_with (go_at_call 97;refine (kJ _ _ _).mono ?_;rintro e w1 ⟨rfl,rfl⟩)
   refine leaves_cons (f:=106) (args:=#[.pointer (some ⟨w.heap.size,0,none⟩)]) (by simp) (by simp [go_sem]) ?_
   refine (lO w.heap.size R _ p 13 [] _ _ _ _ _ (by simp) (((jS w _ _).block R hlt).trans HH.out)).mono ?_
   rintro e u' w'' ⟨rfl,rfl,hr2,hg2⟩
   obtain ⟨Z1,Z2⟩:=RdS.noted HO.out HK.out hl hp hn (jS w _ _) hr2 hg2 HH.out
   exact ⟨_,results_none rfl _ _ _,rfl,Z1,Z2⟩
  ·have e1:endS l ⟨p,fa,0⟩=⟨p,fa,0⟩:=by simp [endS,hpl]
   rw [e1]
   clear e1
   go_enter_defers Tryz.func68,Tryz.ntmps68
   go_wp2_with fail
   go_quiet ((go_at_call 93;exact Calls.quiet_of_same (HF2.out _ (by exact jS w _ _))))
   go_wp2
   refine leaves_cons (f:=106) (args:=#[.pointer (some ⟨w.heap.size,0,none⟩)]) (by simp) (by simp [go_sem]) ?_
   refine (bI w.heap.size R _ (by simp)).mono ?_
   rintro e u' w'' ⟨rfl,rfl,rfl⟩
   exact ⟨_,results_none rfl _ _ _,rfl,HR.out.grown (Below.drew (jS w _ _)),qK _ (Below.drew (jS w _ _))⟩
 ·have e1:endS l ⟨p,fa,fe⟩=⟨p,fa,fe⟩:=by simp [endS,hf]
  rw [e1]
  clear e1
  have hfb:(fe !=0)=true:=by simpa using hf
  have HF2:Hid (∀ (w':World),Below w.heap.size w w'→Calls Tryz.prog 93 #[.pointer (some ⟨R,0,none⟩)] w' fun x w''=>x=.returned (.bool true)∧w''=w'):=by
   have:=HF.out
   rw [hfb] at this
   exact this
  clear HF hfb hf
  go_enter_defers Tryz.func68,Tryz.ntmps68
  go_wp2_with fail
  go_quiet ((go_at_call 93;exact Calls.quiet_of_same (HF2.out _ (by exact jS w _ _))))
  go_wp2
  refine leaves_cons (f:=106) (args:=#[.pointer (some ⟨w.heap.size,0,none⟩)]) (by simp) (by simp [go_sem]) ?_
  refine (bI w.heap.size R _ (by simp)).mono ?_
  rintro e u' w'' ⟨rfl,rfl,rfl⟩
  exact ⟨_,results_none rfl _ _ _,rfl,HR.out.grown (Below.drew (jS w _ _)),qK _ (Below.drew (jS w _ _))⟩
def rawS (l:List Int) (s:St) (n:Int):St:=
 if s.fe≠0 then s else if l.length<s.p+n.toNat then ⟨s.p,l.length,10⟩ else ⟨s.p+n.toNat,s.fa,s.fe⟩
theorem RdS.moved2 {w:World} {lo R:Nat} {l:List Int} {p:Nat} {fa fe:Int} {v:Value} (hh:w.heap[R]?=some (.cells #[v,.int .i64 p,.int .i64 fa,.string ⟨#[]⟩,.int .i64 fe] 158 (0,0))) (ho:Owns w lo v l) (hk:∀ k,v.ownBlock=some k→k<R) (hl:lo≤R) (hn:l.length≤16777216)
  (o:Obj) (x:Int) (p':Nat) (hx:x=p') (hp:p'≤l.length):
  RdS ((w.setCell ⟨R,1,none⟩ (.int .i64 x)).alloc o).drew lo R l ⟨p',fa,fe⟩∧w.grownBy ((w.setCell ⟨R,1,none⟩ (.int .i64 x)).alloc o).drew (some R)∧Has ((w.setCell ⟨R,1,none⟩ (.int .i64 x)).alloc o).drew v l:=by
 have hlt:R<w.heap.size:=(gS hh)
 have hg:w.grownBy ((w.setCell ⟨R,1,none⟩ (.int .i64 x)).alloc o).drew (some R):=aq (kG (kS _ _ _ _) (World.grownBy_alloc _ _ _))
 have hO:Owns ((w.setCell ⟨R,1,none⟩ (.int .i64 x)).alloc o).drew lo v l:=ho.block fun k e=>hg.block k (ho.lt k e).2 (fun e'=>by
  have:=hk k e
  simp at e';omega)
 refine ⟨⟨v,?_,hO,hk,hl,hp,hn⟩,hg,hO.has⟩
 have h2:=jM (o:=1) (.int .i64 x) hh
 show ((w.setCell ⟨R,1,none⟩ (.int .i64 x)).alloc o).heap[R]?=_
 rw [Below.heap_alloc _ _ _ (by simpa [World.setCell] using hlt),h2,hx]
 rfl
theorem iC (w:World) (a:Addr) (x c:Value) (T:TypeId):(((w.setCell a x).alloc (.cells #[c] T)).drew).cell? ⟨w.heap.size,0,none⟩=some c:=by
 have h:=heap_alloc_new (w.setCell a x) (.cells #[c] T)
 have hs:(w.setCell a x).heap.size=w.heap.size:=by simp [World.setCell]
 rw [hs] at h
 show (((w.setCell a x).alloc (.cells #[c] T))).cell? ⟨w.heap.size,0,none⟩=some c
 simp only [World.cell?,h];rfl
def rawB (l:List Int) (s:St) (n:Int):List Int:=if s.fe≠0 then [] else if l.length<s.p+n.toNat then [] else (l.drop s.p).take n.toNat
theorem wL (lo R:Nat) (n:Int) (l:List Int) (p:Nat) (fa:Int) (w:World) (hr:RdS w lo R l ⟨p,fa,0⟩) (hn:-9223372036854775808≤n∧n≤9223372036854775807):
  Calls Tryz.prog 61 #[.pointer (some ⟨R,0,none⟩),.int .i64 n] w fun e w'=>∃ v,e=.returned v∧RdS w' lo R l (rawS l ⟨p,fa,0⟩ n)∧w.grownBy w' (some R)∧Owns w' w.heap.size v (rawB l ⟨p,fa,0⟩ n):=by
 obtain ⟨v,hh,ho,hk,hl,hp,hn'⟩:=hr
 obtain ⟨ao,cap,hv,hcap,hat⟩:=fO ho
 subst hv
 simp only at hh hp
 obtain ⟨h0,h1,h2,h3,h4,hfz⟩:=qN hh
 have hlt:R<w.heap.size:=(gS hh)
 have HH:Hid (w.heap[R]?=some (.cells #[.slice ao l.length cap,.int .i64 p,.int .i64 fa,.string ⟨#[]⟩,.int .i64 0] 158 (0,0))):=hh
 have HO:Hid (Owns w lo (.slice ao l.length cap) l):=ho
 have HK:Hid (∀ k,(Value.slice ao l.length cap).ownBlock=some k→k<R):=hk
 have HC0:Hid (∀ (w':World),Below w.heap.size w w'→w'.cell? ⟨R,0,none⟩=some (.slice ao l.length cap)):=fun w' hb=>(hb.cell hlt).trans h0
 clear hh ho hk h2 h3 hat
 have hmf':=hmf
 have hc1:∀ (o:Obj),(w.alloc o).cell? ⟨R,1,none⟩=some (.int .i64 p):=fun o=>by rw [World.cell?_alloc_past _ _ _ hlt];exact h1
 obtain ⟨m,hm⟩:∃ m:Nat,m=n.toNat:=⟨_,rfl⟩
 have hmx:∀ (w:World) (ts:Array TypeId) (t:TypeId),(Builtin.max_ ts t #[.int .i64 n,.int .i64 0]).run Tryz.prog w=.ok (.int .i64 m) w:=fun w ts t=>by
  have h:=run_max_int2 (P:=Tryz.prog) w ts t .i64 .i64 n 0
  rw [h]
  by_cases hneg:n<0
  ·rw [if_pos (by omega),show (0:Int)=(m:Int) by omega]
  ·rw [if_neg (by omega),show n=(m:Int) by omega]
 have hm63:(m:Int)≤9223372036854775807:=by omega
 by_cases hlen:l.length<p+m
 ·have e1:rawS l ⟨p,fa,0⟩ n=⟨p,l.length,10⟩:=by simp [rawS,← hm,hlen]
  have e2:rawB l ⟨p,fa,0⟩ n=[]:=by simp [rawB,← hm,hlen]
  rw [e1,e2]
  clear e1 e2 hm
  go_enter_defers Tryz.func61,Tryz.ntmps61
  go_wp2_with (go_at_call 93;refine (jh R 0 _ (by simp [World.cell?_alloc_past _ _ _ hlt,h4])).mono ?_;rintro e w1 ⟨rfl,rfl⟩)
  refine wp_region_still_tail 7 Tryz.mixed (by kernel_rfl) ?_
  change wpStill _ _ (World.drew _) (fun a'=>wpList _ _ _ _ a' (World.drew _)) _ _
  simp only [List.take_succ_cons,List.take_zero,List.drop_succ_cons,List.drop_zero]
  repeat still_step
  refine wpStill_nil ?_
  go_wp2_with (go_at_call 94;refine (mi R p m ao l.length cap _ (HC0.out _ (by exact jI w _)) hn' hp (by omega) hm63).mono ?_;rintro e w1 ⟨rfl,rfl⟩)
  refine leaves_cons (f:=91) (args:=#[.pointer (some ⟨w.heap.size,0,none⟩)]) (by simp) (by simp [go_sem]) ?_
  refine (lP w.heap.size R _ l.length 10 [] _ _ _ _ _ (by simp) (((jI w _).block R hlt).trans HH.out)).mono ?_
  rintro e u' w'' ⟨rfl,rfl,hr2,hg2⟩
  obtain ⟨Z1,Z2⟩:=RdS.noted HO.out HK.out hl hp hn' (jI w _) hr2 hg2 HH.out
  exact ⟨_,results_tmp rfl _ _ _,_,rfl,Z1,Z2,Owns.nil _ _⟩
 ·have e1:rawS l ⟨p,fa,0⟩ n=⟨p+m,fa,0⟩:=by simp [rawS,← hm,hlen]
  have e2:rawB l ⟨p,fa,0⟩ n=(l.drop p).take m:=by simp [rawB,← hm,hlen]
  rw [e1,e2]
  clear e1 e2 hm
  go_enter_defers Tryz.func61,Tryz.ntmps61
  go_wp2_with (go_at_call 93;refine (jh R 0 _ (by simp [World.cell?_alloc_past _ _ _ hlt,h4])).mono ?_;rintro e w1 ⟨rfl,rfl⟩)
  refine wp_region_still_tail 7 Tryz.mixed (by kernel_rfl) ?_
  change wpStill _ _ (World.drew _) (fun a'=>wpList _ _ _ _ a' (World.drew _)) _ _
  simp only [List.take_succ_cons,List.take_zero,List.drop_succ_cons,List.drop_zero]
  repeat still_step
  refine wpStill_nil ?_
  go_wp2_with (go_at_call 94;refine (rz R p m ao cap l _ (HC0.out _ (by exact jI w _)) hn' hcap (by omega)).mono ?_;rintro e w1 ⟨ao',cp',rfl,rfl,hpart⟩)
  obtain ⟨Z1,Z2,Z3⟩:=RdS.moved2 HH.out HO.out HK.out hl hn' (Obj.cells #[Value.pointer (some { block:=R,off:=0 })] 76) ((p:Int)+m) (p+m) (by simp) (by omega)
  have Z4:(((w.setCell { block:=R,off:=1 } (Value.int IntKind.i64 ((p:Int)+m))).alloc (Obj.cells #[Value.pointer (some { block:=R,off:=0 })] 76)).drew).cell? ⟨w.heap.size,0,none⟩=some (.pointer (some ⟨R,0,none⟩)):=iC _ _ _ _ _
  have Z5:w.heap.size<(((w.setCell { block:=R,off:=1 } (Value.int IntKind.i64 ((p:Int)+m))).alloc (Obj.cells #[Value.pointer (some { block:=R,off:=0 })] 76)).drew).heap.size:=by simp
  have hlen2:((l.drop p).take m).length≤16777216:=by simp;omega
  refine (dF _ _ _ (hpart _ Z3) hlen2).mono ?_
  rintro e w2 ⟨v2,rfl,ho2,hb2⟩
  have HO2:Hid (Owns w2 w.heap.size v2 ((l.drop p).take m)):=ho2.mono (by simp)
  clear ho2
  have Z6:=Z1.grown hb2
  have Z7:=kG Z2 (qK (some R) hb2)
  have Z8:=(hb2.cell (p:=⟨w.heap.size,0,none⟩) Z5).trans Z4
  clear Z1 Z2 Z3 Z4 Z5 hpart hb2
  go_wp2
  refine leaves_cons (f:=91) (args:=#[.pointer (some ⟨w.heap.size,0,none⟩)]) (by simp) (by simp [go_sem]) ?_
  refine (bJ w.heap.size R _ Z8).mono ?_
  rintro e u' w'' ⟨rfl,rfl,rfl⟩
  exact ⟨_,results_tmp rfl _ _ _,_,rfl,Z6.grown (Below.drew (Below.refl _ _)),aq Z7,Owns.block (w':=w2.drew) HO2.out fun _ _=>rfl⟩
theorem oC (lo R:Nat) (n:Int) (l:List Int) (s:St) (w:World) (hr:RdS w lo R l s) (hf:s.fe≠0):
  Calls Tryz.prog 61 #[.pointer (some ⟨R,0,none⟩),.int .i64 n] w fun e w'=>∃ v,e=.returned v∧RdS w' lo R l s∧w.grownBy w' (some R)∧Owns w' w.heap.size v []:=by
 have HR:Hid (RdS w lo R l s):=hr
 obtain ⟨v,hh,ho,hk,hl,hp,hn⟩:=hr
 obtain ⟨h0,h1,h2,h3,h4,hfz⟩:=qN hh
 have hlt:R<w.heap.size:=(gS hh)
 have hfb:(s.fe !=0)=true:=by simpa using hf
 clear hh ho hk h0 h1 h2 h3 hfz
 have hmf':=hmf
 go_enter_defers Tryz.func61,Tryz.ntmps61
 go_wp2_with (go_at_call 93;refine (jh R s.fe _ (by simp [World.cell?_alloc_past _ _ _ hlt,h4])).mono ?_;rintro e w1 ⟨rfl,rfl⟩)
 refine leaves_cons (f:=91) (args:=#[.pointer (some ⟨w.heap.size,0,none⟩)]) (by simp) (by simp [go_sem]) ?_
 refine (bJ w.heap.size R _ (by simp)).mono ?_
 rintro e u' w'' ⟨rfl,rfl,rfl⟩
 exact ⟨_,results_tmp rfl _ _ _,_,rfl,HR.out.grown (jI _ _),qK _ (jI _ _),Owns.nil _ _⟩
theorem mg (lo R:Nat) (n:Int) (l:List Int) (s:St) (w:World) (hr:RdS w lo R l s) (hn:-9223372036854775808≤n∧n≤9223372036854775807):
  Calls Tryz.prog 61 #[.pointer (some ⟨R,0,none⟩),.int .i64 n] w fun e w'=>∃ v,e=.returned v∧RdS w' lo R l (rawS l s n)∧w.grownBy w' (some R)∧Owns w' w.heap.size v (rawB l s n):=by
 by_cases hf:s.fe=0
 ·obtain ⟨p,fa,fe⟩:=s
  simp only at hf
  subst hf
  exact wL lo R n l p fa w hr hn
 ·have e1:rawS l s n=s:=by simp [rawS,hf]
  have e2:rawB l s n=[]:=by simp [rawB,hf]
  rw [e1,e2]
  exact oC lo R n l s w hr hf
end Go.Proofs.YtjikkhbcbfpocaaGreatDoor.Wi
