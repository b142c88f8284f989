import Derived.Test.YthfcanpkhjgomaaGreatRow
import Derived.Test.YthfcanpkhjgomaaGreatRefC
set_option maxRecDepth 100000
set_option maxHeartbeats 2000000
namespace Go.Proofs.YthfcanpkhjgomaaGreat
open Go.RowKit
def New (w w':World) (b:Nat):Prop:=w.heap.size≤b∧b<w'.heap.size
def CopyOk (ks:F):Prop:=∀ (nm:ByteArray) (v:Vd) (m:Md) (c:Array Value) (w:World),HasN w c nm v m ks→ks.weight≤100000→
  Calls Tryz.prog 56 #[.agg c] w fun e w'=>∃ c',e=.returned (.agg c')∧HasNP w' (New w w') c' nm v m ks∧G w w'
def CI (w:World) (B:Nat) (c:Array Value) (ks:F) (wr:World) (k:Nat) (u:Value):Prop:=
 G w wr∧Var wr B c∧Var wr (B+1) z30∧B+2≤wr.heap.size∧∃ (xs:List Value) (T:Nat→Prop),wr.ownsRow (B+2) 30 41 u k xs∧RCells wr T (ks.take k) xs∧∀ b,T b→B+2≤b∧b<wr.heap.size∧some b≠u.ownBlock
theorem CI.step {w:World} {B:Nat} {c:Array Value} {ks ks1 r:F} {wr w2 w4:World} {k:Nat} {u u':Value} {nm:ByteArray} {v:Vd} {m:Md} {c1:Array Value} {xs:List Value} (h:G w wr∧Var wr B c∧Var wr (B+1) z30∧B+2≤wr.heap.size) {T:Nat→Prop}
  (hrow:wr.ownsRow (B+2) 30 41 u k xs) (hcs:RCells wr T (ks.take k) xs) (hT:∀ b,T b→B+2≤b∧b<wr.heap.size∧some b≠u.ownBlock) (hd:ks.drop k=.cons nm v m ks1 r)
  (hn:HasNP w2 (New wr w2) c1 nm v m ks1) (hg:G wr w2) (ho:w4.ownsRow (B+2) 30 41 u' (k+1) (xs++c1.toList)) (hgr:(w2.alloc (.cells c1 30)).grownBy w4 u.ownBlock)
  (hat:u'.ownBlock=u.ownBlock∨u'.ownBlock=some (w2.alloc (.cells c1 30)).heap.size) (hwB:w.heap.size=B):CI w B c ks w4 (k+1) u':=by
 have hlt:=World.ownsRow.lt hrow
 have hs1:=hg.size
 have hs2:=hgr.size
 have hsw:=h.1.size
 simp only [World.size_alloc] at hs2 hat
 have hsame:∀ b,b<w2.heap.size→some b≠u.ownBlock→w4.heap[b]?=w2.heap[b]?:=fun b hb hne=>(hgr.block b (by simp;omega) hne).trans (Below.heap_alloc w2 _ b hb)
 have hbu:∀ g,u.ownBlock=some g→B+2≤g:=fun g hg=>(hlt g hg).1
 have hne:∀ b,b<B+2→some b≠u.ownBlock:=fun b hb e=>by have:=hbu b e.symm;omega
 obtain ⟨kv,rfl,hk⟩:=hn
 refine ⟨?_,(hsame B (by omega) (hne B (by omega))).trans (h.2.1.grow hg),(hsame (B+1) (by omega) (hne _ (by omega))).trans (h.2.2.1.grow hg),by omega,xs++(nc nm v m kv).toList,fun b=>T b∨New wr w2 b,ho,?_,?_⟩
 ·have h1:=(h.1.trans hg).trans (G.alloc w2 (.cells (nc nm v m kv) 30))
  exact Below.trans (B:=w.heap.size) h1 ((Below.refl _ _).grown hgr (by simp;omega) fun g hg=>by have:=hbu g hg;omega)
 ·rw [F.take_more ks k nm v m ks1 r hd]
  refine RCells.snoc (hk.keep fun b hb=>⟨?_,.inr hb⟩) (hcs.keep fun b hb=>⟨?_,.inl hb⟩)
  ·exact hsame b hb.2 fun e=>by have:=(hlt b e.symm).2;have:=hb.1;omega
  ·have:=hT b hb
   rw [hsame b (by omega) this.2.2]
   exact Below.block hg b this.2.1
 ·rintro b (hb | hb)
  ·have:=hT b hb
   refine ⟨this.1,by omega,?_⟩
   rcases hat with e | e
   ·rw [e];exact this.2.2
   ·rw [e];intro q;injection q with q;omega
  ·have h1:=hb.1
   have h2:=hb.2
   refine ⟨by omega,by omega,?_⟩
   rcases hat with e | e
   ·rw [e];intro q;have:=(hlt b q.symm).2;omega
   ·rw [e];intro q;injection q with q;omega
theorem var_frozen {w:World} {g:Nat} {c:Array Value} (h:Var w g c) (j:Nat):w.frozen? ⟨g,j,none⟩=false:=by
 have h':w.heap[g]?=some (.cells c 30 (0,0)):=h
 simp [World.frozen?,h']
theorem cell_of_var {w:World} {g:Nat} {c:Array Value} (h:Var w g c) (j:Nat) (hj:j<c.size):∃ u,w.cell? ⟨g,j,none⟩=some u:=⟨c[j],jG h.lies j _ (by simp [hj])⟩
theorem Var.setCell {w:World} {g:Nat} {c:Array Value} (h:Var w g c) (j:Nat) (u:Value):Var (w.setCell ⟨g,j,none⟩ u) g (c.setIfInBounds j u):=by
 have h':w.heap[g]?=some (.cells c 30 (0,0)):=h
 unfold Var World.setCell
 simp only []
 rw [Array.getElem?_modify]
 simp [h']
theorem owns_growR {w w':World} {lo e size n:Nat} {v:Value} {xs:List Value} (h:w.ownsRow lo e size v n xs) (hg:G w w'):w'.ownsRow lo e size v n xs:=by
 have hlt:=World.ownsRow.lt h
 obtain ⟨h1,h | ⟨g,cap,cur,hv,hb,hh,hr⟩⟩:=h
 ·exact ⟨h1,.inl h⟩
 ·refine ⟨h1,.inr ⟨g,cap,cur,hv,hb,?_,hr⟩⟩
  rw [Below.block hg g (hlt g (by rw [hv];rfl)).2]
  exact hh
theorem copy_any:∀ (Z:Nat) (ks:F),ks.size<Z→CopyOk ks:=by
 intro Z
 induction Z with
 | zero=>intro f h;omega
 | succ Z ih=>
  intro ks hZ nm v m c w ⟨kv,hc,hS⟩ hw
  obtain ⟨a,cap,rfl,_⟩:=hS.form
  obtain ⟨N,hN⟩:∃ N,ks.len=N:=⟨_,rfl⟩
  have hN2:N≤100000:=by have:=ks.len_le_size;have:=F.size_le_weight ks;omega
  obtain ⟨i0,hi,hz0,hz1,hz2⟩:=info_parts info30
  rw [hN] at hc
  have hsz:c.size=41:=by rw [hc];exact jZ ..
  have hV0:=Var.new w c
  have hV1:=hV0.grow (G.alloc (w.alloc (.cells c 30)) (.cells z30 30))
  have hV2:=Var.new (w.alloc (.cells c 30)) z30
  rw [World.size_alloc] at hV2
  have c40:=jG hV1.lies 40 (.slice a N cap) (by rw [hc];exact qB ..)
  have HCI:Hid (CI w w.heap.size c ks ((w.alloc (.cells c 30)).alloc (.cells z30 30)) 0 (.slice none 0 0)):=⟨(G.alloc _ _).trans (G.alloc _ _),hV1,hV2,by simp,[],fun _=>False,World.ownsRow_nil _ _ _ _,by rw [F.take_zero];rfl,fun b hb=>hb.elim⟩
  have HS:Hid (HasS w (.slice a ks.len cap) ks∧ks.len=N∧ks.size<Z+1∧ks.weight≤100000):=⟨hS,hN,hZ,hw⟩
  have HC:Hid (c=nc nm v m (.slice a N cap)):=hc
  have HIH:Hid (∀ ks:F,ks.size<Z→CopyOk ks):=ih
  clear hc hS hN hZ hw ih hV0 hV1 hV2
  go_enter Tryz.func56,Tryz.ntmps56
  go_upto_region 1 with (with_reducible refine jJ (.pointer (some ⟨(w.alloc (.cells c 30)).heap.size,0,none⟩)) ((w.alloc (.cells c 30)).alloc (.cells z30 30)) ?_ ?_ ?_;exact exec_alloc30 rfl _;kernel_rfl)
  try simp only [Act.put,List.setIfInBounds_toArray,List.set_cons_zero,List.set_cons_succ,World.size_alloc]
  generalize (w.alloc (.cells c 30)).alloc (.cells z30 30)=w1 at *
  obtain ⟨B,hB⟩:∃ B,w.heap.size=B:=⟨_,rfl⟩
  rw [hB] at c40 HCI ⊢
  have HB:Hid (w.heap.size=B):=hB
  clear hB
  go_wp2_with fail
  go_loopw [3,4] (fun u i wr=>∃ k:Nat,i=.int .i64 k∧k≤N∧(∃ ao uc,u=.slice ao k uc)∧wr.cell? ⟨B,40,none⟩=some (.slice a N cap)∧Hid (CI w B c ks wr k u)) (fun _ i _=>N-iOf i)
  case atStart=>exact ⟨0,rfl,Nat.zero_le _,⟨none,0,rfl⟩,c40,HCI.out⟩
  case round=>
   clear c40 HCI
   obtain ⟨k,rfl,hk,⟨ao,uc,rfl⟩,q40,HI⟩:=hrel
   by_cases hlt:k<N
   ·have hltI:(k:Int)<(N:Int):=by omega
    obtain ⟨g2,o2,cp,nm1,v1,m1,ks1,c1,hv1,hd1,hN1,hc1⟩:=HS.out.1.at (k:=k) (by rw [HS.out.2.1];exact hlt)
    obtain rfl:a=some ⟨g2,o2,none⟩:=by injection hv1
    clear hv1
    have hksz:=F.kids_size hd1
    have hwt:ks1.weight≤100000:=by
     have h1:=HS.out.2.2.2
     have h2:=congrArg F.weight (F.jw ks k)
     rw [F.app_weight,hd1,F.weight] at h2
     omega
    have HL1:Hid (Lies wr g2 (o2+k*41) c1∧c1.size=41):=⟨HI.out.1.lies hc1,by obtain ⟨_,rfl,_⟩:=hN1;exact jZ ..⟩
    have CC:=HIH.out ks1 (by have:=HS.out.2.2.1;omega) nm1 v1 m1 c1 wr (hN1.below HI.out.1) hwt
    have HD:Hid (ks.drop k=.cons nm1 v1 m1 ks1 (ks.drop (k+1))):=hd1
    clear hd1 hN1 hc1 hksz hwt
    obtain ⟨h1,h2,h3,h4,xs,T,hrow,hcs,hT⟩:=HI.out
    have HI2:Hid ((G w wr∧Var wr B c∧Var wr (B+1) z30∧B+2≤wr.heap.size)∧wr.ownsRow (B+2) 30 41 (.slice ao k uc) k xs∧RCells wr T (ks.take k) xs∧∀ b,T b→B+2≤b∧b<wr.heap.size∧some b≠(Value.slice ao k uc).ownBlock):=⟨⟨h1,h2,h3,h4⟩,hrow,hcs,hT⟩
    clear h1 h2 h3 h4 hrow hcs hT HI
    go_wp2_with (first
     | (with_reducible refine jA (.agg c1) ?_ ?_ ?_;exact jH _ rfl g2 (o2+k*41) rfl c1 HL1.out.2 HL1.out.1;kernel_rfl)
     | (go_at_call 56;refine CC.mono ?_;rintro e w2 ⟨c2,rfl,hn2,hg2⟩;have HN2:Hid (HasNP w2 (New wr w2) c2 nm1 v1 m1 ks1∧G wr w2):=⟨hn2,hg2⟩;have HZ2:Hid (c2.size=41∧c2.all (·.oneCell')=true):=by { obtain ⟨kv2,rfl,hk2⟩:=hn2;obtain ⟨a2,cap2,rfl,_⟩:=hk2;exact ⟨jZ ..,nc_one _ _ _ _ rfl⟩ };have OW:Hid ((w2.alloc (.cells c2 30)).ownsRow (B+2) 30 41 (.slice ao k uc) k xs):=World.ownsRow.alloc (owns_growR HI2.out.2.1 hg2) _;have hsz2:B+2≤w2.heap.size:=Nat.le_trans HI2.out.1.2.2.2 hg2.size;clear CC hn2 hg2)
     | (with_reducible refine jJ (.slice (some ⟨w2.heap.size,0,none⟩) 1 1) (w2.alloc (.cells c2 30)) ?_ ?_ ?_;exact exec_slice1 _ rfl c2 rfl HZ2.out.1 _;kernel_rfl)
     | (at_builtin;refine wpList_append_own_at _ rfl _ _ 28 rfl (B+2) 30 i0 (.agg z30) 41 128 Tryz.underlying28 hi hz0 hz1 hz2 jU (by decide) (.slice ao k uc) k xs rfl OW.out ⟨w2.heap.size,0,none⟩ 1 1 c2.toList rfl (by simpa using HZ2.out.1) (fun j u hj=>by rw [Addr.add_mid];exact jh w2 c2 30 j u (by simpa using hj)) (fun u hu=>(Array.all_eq_true_iff_forall_mem.1 HZ2.out.2) u (by simpa using hu)) (by unfold maxLen;omega) (by omega) (by simp;omega) ?_;intro u' w4 ho4 hg4 _ hat4;have R4:Hid (CI w B c ks w4 (k+1) u'):=CI.step HI2.out.1 HI2.out.2.1 HI2.out.2.2.1 HI2.out.2.2.2 HD.out HN2.out.1 HN2.out.2 ho4 hg4 hat4 HB.out;obtain ⟨g',cap',rfl⟩:=row_form ho4;clear ho4 hg4 hat4))
    have z40:=jG R4.out.2.1.lies 40 (.slice (some ⟨g2,o2,none⟩) N cap) (by rw [HC.out];exact qB ..)
    go_roundw
    case rel=>exact ⟨k+1,by go_num,by omega,⟨_,_,rfl⟩,z40,R4.out⟩
    case measure=>simp;omega
   ·have hltI:¬ (k:Int)<(N:Int):=by omega
    obtain rfl:k=N:=by omega
    obtain ⟨h1,h2,h3,h4,xs,T,hrow,hcs,hT⟩:=HI.out
    rw [F.take_all ks k (by rw [HS.out.2.1];exact Nat.le_refl _)] at hcs
    have hcell:=cell_of_var h2 40 (by rw [hsz];omega)
    have HF:=hid (⟨h1,h2,h3,h4,hrow,hcs,hT⟩:G w wr∧Var wr B c∧Var wr (B+1) z30∧B+2≤wr.heap.size∧wr.ownsRow (B+2) 30 41 (.slice ao k uc) k xs∧RCells wr T ks xs∧∀ b,T b→B+2≤b∧b<wr.heap.size∧some b≠(Value.slice ao k uc).ownBlock)
    have hfz:wr.frozen? ⟨B,40,none⟩=false:=var_frozen h2 40
    have hVS:Var (wr.setCell ⟨B,40,none⟩ (.slice ao k uc)) B (nc nm v m (.slice ao k uc)):=by
     have:=h2.setCell 40 (.slice ao k uc)
     rw [HC.out,nc_kset] at this
     exact this
    have hVT:Var (wr.setCell ⟨B,40,none⟩ (.slice ao k uc)) (B+1) z30:=(Below.heap_setCell _ _ _ _ (by show B+1≠B;omega)).trans h3
    have HV:=hid (⟨hVS,hVT⟩:_∧_)
    clear h1 h2 h3 h4 hrow hcs hT HI hcell hVS hVT
    go_wp2_with (first
     | (with_reducible refine jA (.agg (nc nm v m (.slice ao k uc))) ?_ ?_ ?_;exact jH _ rfl B 0 rfl _ (jZ ..) HV.out.1.lies;kernel_rfl)
     | (with_reducible refine jP ((wr.setCell ⟨B,40,none⟩ (.slice ao k uc)).setRow (B+1) (nc nm v m (.slice ao k uc))) ?_ ?_ ?_;exact jX _ _ rfl (B+1) _ z30 rfl rfl _ HV.out.2 (jZ ..) jU (nc_one _ _ _ _ rfl);kernel_rfl))
    refine bodyPost_ret (results_cell_row (P:=Tryz.prog) (p:=2) (ty:=30) rfl _ _ (B+1) 30 (nc nm v m (.slice ao k uc)) (0,0) _ rfl HV.out.2.set under30 rfl (by rw [size30,jZ])) rfl ?_
    obtain ⟨h1,h2,h3,h4,hrow,hcs,hT⟩:=HF.out
    have hlt2:=World.ownsRow.lt hrow
    have hoth:∀ b,B+2≤b→((wr.setCell ⟨B,40,none⟩ (.slice ao k uc)).setRow (B+1) (nc nm v m (.slice ao k uc))).heap[b]?=wr.heap[b]?:=fun b hb=>
     (setRow_other _ (B+1) b _ (by omega)).trans (Below.heap_setCell _ _ _ b (by show b≠B;omega))
    have hbel:G w ((wr.setCell ⟨B,40,none⟩ (.slice ao k uc)).setRow (B+1) (nc nm v m (.slice ao k uc))):=by
     refine Below.trans (B:=w.heap.size) h1 ⟨rfl,rfl,rfl,by simp,fun b hb=>?_⟩
     have:=HB.out
     exact (setRow_other _ (B+1) b _ (by omega)).trans (Below.heap_setCell _ _ _ b (by show b≠B;omega))
    have hsp:HasSP wr (fun b=>B+2≤b∧b<wr.heap.size) (.slice ao k uc) ks:=by
     refine RCells.slice (lo:=B+2) (hcs.keep fun b hb=>⟨rfl,(hT b hb).1,(hT b hb).2.1⟩) (by rw [HS.out.2.1];exact hrow) (fun g hg=>hlt2 g hg)
    refine ⟨_,rfl,⟨_,rfl,hsp.keep fun b hb=>⟨hoth b hb.1,?_,?_⟩⟩,hbel⟩
    ·have:=HB.out;omega
    ·simp;exact hb.2
end Go.Proofs.YthfcanpkhjgomaaGreat
