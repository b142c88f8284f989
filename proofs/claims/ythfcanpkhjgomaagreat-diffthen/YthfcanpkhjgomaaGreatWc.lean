import Derived.Test.YthfcanpkhjgomaaGreatVx
import Derived.Test.YthfcanpkhjgomaaGreatDFit
namespace Go.Proofs.YthfcanpkhjgomaaGreat
open Go.RowKit
open Ch
structure LZ (x y:Kid) (n:Nat):Prop where
 hn:(difs (some x) (some y)).length=n
 hl:siZ (some x)+siZ (some y)≤10000
 hw:siW (some x)+siW (some y)≤1000000
 hT:(difs (some x) (some y)).length≤50000
theorem difs_len {x y:Kid}:(difs (some x) (some y)).length≤x.k.flat.size+y.k.flat.size+2:=by
 have h:∀ (N:Nat) (L:List By) (f g:F),(DO.wk N L f g).length≤f.size+g.size:=by
  intro N
  induction N with
  | zero=>intro L f g;simp [DO.wk]
  | succ N ih=>
   intro L f g
   have d1:∀ (L:List By) (o n:Vd),(DO.df L o n).length≤1:=fun L o n=>by unfold DO.df;split<;>simp
   cases f with
   | nil=>cases g with
    | nil=>simp [DO.wk]
    | cons nm v m k r=>
     simp only [DO.wk,List.length_append,F.size]
     have:=d1 (L++[tl nm]) DO.vz v
     have:=ih (L++[tl nm]) .nil k
     have:=ih L .nil r
     simp only [F.size] at *
     omega
   | cons nm v m k r=>cases g with
    | nil=>
     simp only [DO.wk,List.length_append,F.size]
     have:=d1 (L++[tl nm]) v DO.vz
     have:=ih (L++[tl nm]) k .nil
     have:=ih L r .nil
     simp only [F.size] at *
     omega
    | cons nm2 v2 m2 k2 r2=>
     simp only [DO.wk]
     split
     ·simp only [List.length_append,F.size]
      have:=d1 (L++[tl nm]) v DO.vz
      have:=ih (L++[tl nm]) k .nil
      have:=ih L r (.cons nm2 v2 m2 k2 r2)
      simp only [F.size] at *
      omega
     ·split
      ·simp only [List.length_append,F.size]
       have:=d1 (L++[tl nm2]) DO.vz v2
       have:=ih (L++[tl nm2]) .nil k2
       have:=ih L (.cons nm v m k r) r2
       simp only [F.size] at *
       omega
      ·simp only [List.length_append,F.size]
       have:=d1 (L++[tl nm]) v v2
       have:=ih (L++[tl nm]) k k2
       have:=ih L r r2
       omega
 unfold difs dl
 rw [List.length_map,List.length_append]
 have h1:=h ((siF (some x)).size+(siF (some y)).size+1) [] (siF (some x)) (siF (some y))
 have h2:(DO.df [] (siV (some x)) (siV (some y))).length≤1:=by unfold DO.df;split<;>simp
 simp only [siF] at *
 omega
theorem lz_of {x y:Kid} (h1:x.k.flat.weight≤6000) (h2:y.k.flat.weight≤6000) (hs:x.k.flat.size+y.k.flat.size≤9990):LZ x y (difs (some x) (some y)).length:=by
 have:=difs_len (x:=x) (y:=y)
 exact ⟨rfl,by simp only [siZ];omega,by simp only [siW,siF];omega,by omega⟩
theorem run_store_func {P:Program} {w:World} {a:Addr} {m:Mode} (f:Fn) (x y:Array Value):(store a (.func f x y) m).run P w=stored P w a (.func f x y) m:=run_store P w a _ m rfl
attribute [local go_sem] run_store_func
theorem good_small:∀ f:F,goodN f→2*f.size≤f.weight
 | .nil,_=>Nat.le_refl _
 | .cons nm v m k r,⟨h1,h2,h3⟩=>by
  have:=good_small k h2
  have:=good_small r h3
  have h4:1≤nm.size:=by
   unfold nameB at h1
   simp only [decide_eq_true_eq] at h1
   have:=h1.1
   rwa [tl_len] at this
  simp only [F.size,F.weight]
  omega
theorem gv_same (s:Int) (T:List Cd) (h:¬ (0≤s∧s<(T.length:Int))):gvR s T=T:=by
 unfold gvR
 split
 ·rfl
 ·rw [List.take_of_length_le (by omega)]
end Go.Proofs.YthfcanpkhjgomaaGreat
namespace Go.Proofs.YthfcanpkhjgomaaGreat
open Go.RowKit Ch
def GivOk (t u:T3) (B:Nat) (w:World):Prop:=∀ W,G w W→Calls Tryz.prog 19 #[.func (.func 58) #[] #[.pointer (some ⟨B,0,none⟩),.pointer (some ⟨B+1,0,none⟩)],.int .i64 (-1)] W fun e W'=>
 ∃ ao cp,e=.returned (.tuple #[.slice ao (difT t u).length cp,.bool true])∧HasA W' (.slice ao (difT t u).length cp) (difT t u)∧G W W'
theorem of_given (p pu:Nat) (t u:T3) (w:World) (ht:T1 w p t) (hu:T1 w pu u) (gt:Good t) (gu:Good u) (w1:t.2.2.weight≤6000) (w2:u.2.2.weight≤6000):
  Calls Tryz.prog 20 #[.pointer (some ⟨p,0,none⟩),.pointer (some ⟨pu,0,none⟩)] w fun e w'=>∃ B,e=.returned (.func (.func 58) #[] #[.pointer (some ⟨B,0,none⟩),.pointer (some ⟨B+1,0,none⟩)])∧GivOk t u B w'∧G w w':=by
 obtain ⟨x,ex,rfl,sx⟩:=ht.si
 obtain ⟨y,ey,rfl,sy⟩:=hu.si
 subst ex;subst ey
 have g1:=good_small x.k.flat (check_rise gt.c).2
 have g2:=good_small y.k.flat (check_rise gu.c).2
 have w1':x.k.flat.weight≤6000:=w1
 have w2':y.k.flat.weight≤6000:=w2
 have hz:=lz_of (x:=x) (y:=y) w1' w2' (by omega)
 refine (of7_any (some x) (some y) w _ rfl).mono ?_
 rintro e w' ⟨rfl,rfl⟩
 have hg:G w ((w.alloc (.cells #[siP (some x)] 34)).alloc (.cells #[siP (some y)] 34)):=(G.alloc w _).trans (G.alloc _ _)
 have b1:Bx ((w.alloc (.cells #[siP (some x)] 34)).alloc (.cells #[siP (some y)] 34)) w.heap.size 34 (siP (some x)):=(heap_alloc_old _ _ (by simp)).trans (heap_alloc_new _ _)
 have b2:Bx ((w.alloc (.cells #[siP (some x)] 34)).alloc (.cells #[siP (some y)] 34)) (w.heap.size+1) 34 (siP (some y)):=by
  have:=heap_alloc_new (w.alloc (.cells #[siP (some x)] 34)) (.cells #[siP (some y)] 34)
  rwa [World.size_alloc] at this
 refine ⟨w.heap.size,rfl,fun W hW=>?_,hg⟩
 refine (given_any (some x) (some y) w.heap.size (w.heap.size+1) (-1) W (sx.grow (hg.trans hW)) (sy.grow (hg.trans hW)) ((hW.block _ b1.lt).trans b1) ((hW.block _ b2.lt).trans b2) hz.hl hz.hw hz.hT).mono ?_
 rintro e W' ⟨v,rfl,ow,gb⟩
 rw [gv_same (-1) _ (by omega)] at ow
 obtain ⟨ao,cp,rfl⟩:=ow.form
 exact ⟨ao,cp,rfl,HasQ.has ow.hasq,gb⟩
theorem joinL_small:∀ {L:List By},(∀ x∈L,x.length≤255)→(joinL L).length≤256*L.length
 | [],_=>Nat.le_refl _
 | [x],h=>by have:=h x (by simp);simp only [joinL,List.length_cons,List.length_nil];omega
 | x::y::t,h=>by
  have h1:=h x (by simp)
  have h2:=joinL_small (L:=y::t) fun z hz=>h z (List.mem_cons_of_mem _ hz)
  simp only [joinL,List.length_append,List.length_cons] at h2 ⊢
  omega
theorem split_small {s:ByteArray} (h:splitE (tl s) 64=0):s.size≤1048576:=by
 obtain ⟨h1,h2⟩:=names_split h
 have h3:=joinL_small (L:=(cutN s).map tl) fun x hx=>by
  obtain ⟨y,hy,rfl⟩:=List.mem_map.1 hx
  have:=h1 y hy
  unfold nameB at this
  simp only [decide_eq_true_eq] at this
  exact this.2.1
 rw [cutN_tl,join_pieces,tl_len,← cutN_tl,List.length_map] at h3
 omega
theorem difT_facts {w:World} {p pu:Nat} {t u:T3} (ht:T1 w p t) (hu:T1 w pu u) (gt:Good t) (gu:Good u) (w1:t.2.2.weight≤6000) (w2:u.2.2.weight≤6000):
  (difT t u).length≤10000∧(∀ c∈difT t u,c.path.size≤1048576)∧(difT t u).map turnC=difT u t∧(difT t u=[]↔sameT false t u=true)∧t.2.2.size≤50000∧u.2.2.size≤50000:=by
 obtain ⟨x,ex,_,_⟩:=ht.si
 obtain ⟨y,ey,_,_⟩:=hu.si
 have g1:=good_small t.2.2 (check_rise gt.c).2
 have g2:=good_small u.2.2 (check_rise gu.c).2
 have hd:=difT_dd gt gu ex ey
 refine ⟨?_,fun c hc=>?_,difT_turn gt gu ex ey,difT_nil gt gu ex ey,by omega,by omega⟩
 ·subst ex;subst ey
  have h:=difs_len (x:=x) (y:=y)
  rw [difs_T] at h
  have e1:(kT x).2.2.size=x.k.flat.size:=rfl
  have e2:(kT y).2.2.size=y.k.flat.size:=rfl
  omega
 ·rw [hd.1] at hc
  exact split_small (hd.2.split c hc)
theorem apply_ok {p pu:Nat} {t u:T3} {ao:Option Addr} {cp:Nat} {w:World} (ht:T1 w p t) (hu:T1 w pu u) (gt:Good t) (gu:Good u) (w1:t.2.2.weight≤6000) (w2:u.2.2.weight≤6000) (h:HasA w (.slice ao (difT t u).length cp) (difT t u)):
  Calls Tryz.prog 11 #[.pointer (some ⟨p,0,none⟩),.slice ao (difT t u).length cp] w fun e w'=>∃ z p',e=.returned (.tuple #[.pointer (some ⟨p',0,none⟩),.int .i64 0])∧T1 w' p' z∧z.2.2.rises∧z.2.2.size≤50000∧sameT false z u=true∧G w w':=by
 obtain ⟨f1,f2,_,_,f5,f6⟩:=difT_facts ht hu gt gu w1 w2
 obtain ⟨x,ex,_,_⟩:=ht.si
 obtain ⟨y,ey,_,_⟩:=hu.si
 obtain ⟨k1,k2⟩:=difT_apply gt gu ex ey
 refine (apply_any p t ao cp (difT t u) w ht gt.rises h (by omega) f5 f2).mono ?_
 rintro e w' ⟨v,rfl,hg,_,q⟩
 obtain ⟨z,p',hz,rfl,hT⟩:=q k1
 obtain ⟨m1,m2⟩:=k2 z hz
 rw [k1]
 refine ⟨z,p',rfl,hT,m1.1,?_,m2,hg⟩
 unfold sameT at m2
 rw [Bool.and_eq_true] at m2
 have:=(sameF_len m2.2).2
 omega
end Go.Proofs.YthfcanpkhjgomaaGreat
