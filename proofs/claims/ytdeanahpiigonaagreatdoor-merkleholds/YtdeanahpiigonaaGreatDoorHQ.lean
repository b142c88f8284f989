import Derived.Test.YtdeanahpiigonaaGreatDoorGrowsI
import Derived.Test.YtdeanahpiigonaaGreatDoorWRaw2
import Derived.Test.YtdeanahpiigonaaGreatDoorSLong
import Derived.Test.YtdeanahpiigonaaGreatDoorSEq
import Derived.Laws.EntriesVeiled
set_option maxRecDepth 100000
namespace Go.Proofs.YtdeanahpiigonaaGreatDoor
open Go.RowKit
def wpS (s:Nat) (md:Region.Mode) (ops:Array Oper) (Q:Exit→Act→World→Prop):Nat→Array Bool→Act→World→Prop
 | 0,listed,a,w0=>∀ w,G w0 w→Region.ready md ops listed=[]∧Q .normal a w
 | n+1,listed,a,w0=>∀ w,G w0 w→(Region.ready md ops listed=[]→Q .normal a w)∧
  ∀ i∈Region.ready md ops listed,wpOp Tryz.prog ops Q i (fun a' w'=>(i=s→Region.ready md ops (listed.setIfInBounds i true)=[]∧Q .normal a' w')∧(i≠s→G w w'∧wpS s md ops Q n (listed.setIfInBounds i true) a' w')) a w
theorem wpS.grow {s:Nat} {md:Region.Mode} {ops:Array Oper} {Q:Exit→Act→World→Prop} {n:Nat} {listed:Array Bool} {a:Act} {w w':World} (h:wpS s md ops Q n listed a w) (hg:G w w'):wpS s md ops Q n listed a w':=by
 cases n with
 | zero=>exact fun x hx=>h x (hg.trans hx)
 | succ n=>exact fun x hx=>h x (hg.trans hx)
theorem pY {md:Region.Mode} {ops:Array Oper} {Q:Exit→Act→World→Prop} {listed:Array Bool} {a:Act} {w:World} (hr:Region.ready md ops listed=[]) (h:Q .normal a w):∀ n,wpAny Tryz.prog md ops Q n listed a w
 | 0=>⟨hr,h⟩
 | n+1=>⟨fun _=>h,fun i hi=>by rw [hr] at hi;cases hi⟩
theorem wpS.any {s:Nat} {md:Region.Mode} {ops:Array Oper} {Q:Exit→Act→World→Prop}:∀ (n:Nat) (listed:Array Bool) (a:Act) (w:World),wpS s md ops Q n listed a w→wpAny Tryz.prog md ops Q n listed a w
 | 0,_,_,w,h=>h w (G.refl w)
 | n+1,_,_,w,h=>⟨(h w (G.refl w)).1,fun i hi=>wpOp_mono (fun a' w' h'=>by
   by_cases e:i=s
   ·exact pY (h'.1 e).1 (h'.1 e).2 n
   ·exact wpS.any n _ a' w' (h'.2 e).2) ((h w (G.refl w)).2 i hi)⟩
section
variable {s:Nat} {ops:Array Oper} {Q:Exit→Act→World→Prop} {md:Region.Mode}
end
section
variable {s:Nat} {F:Fence} {n:Nat} {md:Region.Mode} {ops:Array Oper} {Q:Exit→Act→World→Prop}
def wpX (s:Nat) (F:Fence) (n:Nat) (md:Region.Mode) (ops:Array Oper) (Q:Exit→Act→World→Prop):Nat→Array Bool→Act→World→Prop
 | 0,listed,a,w0=>∀ w,G w0 w→Region.ready md ops listed=[]∧Q .normal a w
 | k+1,listed,a,w0=>∀ w,G w0 w→(Region.ready md ops listed=[]→Q .normal a w)∧
  ∀ i∈Region.ready md ops listed,wpOpIn F n Tryz.prog ops Q i (fun a' w'=>(i=s→wpAnyIn F n Tryz.prog md ops Q k (listed.setIfInBounds i true) a' w')∧(i≠s→G w w'∧wpX s F n md ops Q k (listed.setIfInBounds i true) a' w')) a w
theorem wpX.grow {k:Nat} {listed:Array Bool} {a:Act} {w w':World} (h:wpX s F n md ops Q k listed a w) (hg:G w w'):wpX s F n md ops Q k listed a w':=by
 cases k with
 | zero=>exact fun x hx=>h x (hg.trans hx)
 | succ k=>exact fun x hx=>h x (hg.trans hx)
theorem wpX.any:∀ (k:Nat) (listed:Array Bool) (a:Act) (w:World),wpX s F n md ops Q k listed a w→wpAnyIn F n Tryz.prog md ops Q k listed a w
 | 0,_,_,w,h=>h w (G.refl w)
 | k+1,_,_,w,h=>⟨(h w (G.refl w)).1,fun i hi=>wpOpIn_mono (fun a' w' h'=>by
   by_cases e:i=s
   ·exact h'.1 e
   ·exact wpX.any k _ a' w' (h'.2 e).2) ((h w (G.refl w)).2 i hi)⟩
theorem qL (s:Nat) {id:Nat} {a:Act} {w:World} (h:wpX s F n .any ops Q ops.size (Array.replicate ops.size false) a w.drew):(Code.region id ops true).wpIn F n Tryz.prog Q a w:=
 wpIn_region_any (by kernel_rfl) (wpX.any _ _ _ _ h)
def AllX (s:Nat) (F:Fence) (n:Nat) (md:Region.Mode) (ops:Array Oper) (Q:Exit→Act→World→Prop) (k:Nat) (listed:Array Bool) (a:Act) (w:World) (rs:List Nat):Prop:=
 ∀ i∈rs,wpOpIn F n Tryz.prog ops Q i (fun a' w'=>(i=s→wpAnyIn F n Tryz.prog md ops Q k (listed.setIfInBounds i true) a' w')∧(i≠s→G w w'∧wpX s F n md ops Q k (listed.setIfInBounds i true) a' w')) a w
theorem ja (rs:List Nat) {k:Nat} {listed:Array Bool} {a:Act} {w0:World} (hr:Region.ready md ops listed=rs) (hne:rs≠[]) (h:∀ w,G w0 w→AllX s F n md ops Q k listed a w rs):wpX s F n md ops Q (k+1) listed a w0:=
 fun w hg=>⟨fun e=>absurd (hr ▸ e) hne,hr ▸ h w hg⟩
theorem AllX.nil {k:Nat} {listed:Array Bool} {a:Act} {w:World}:AllX s F n md ops Q k listed a w []:=fun _ h=>by cases h
theorem AllX.call (hL:Lets F n) (i d:Nat) {oi:Oper} {k:Nat} {listed:Array Bool} {a:Act} {w:World} {rs:List Nat} (f:FuncId) (args:Array Value) (hi:ops[i]?=some oi) (hd:oi.dst=some d) (his:i≠s) (hnd:yp ops=true) (hw:Region.wanted oi (yielded ops a.tmps)=true)
  (hx:(execOp a.eval oi).run Tryz.prog w=.ok (.enter f args) w) (hc:CallsIn F (n-1) Tryz.prog f args w fun e w'=>∃ v,e=.returned v∧G w w'∧wpX s F n md ops Q k (listed.setIfInBounds i true) (a.put (some d) v) w')
  (hs:AllX s F n md ops Q k listed a w rs):AllX s F n md ops Q k listed a w (i::rs):=fun j hj=>by
 rcases List.mem_cons.1 hj with rfl | hj
 ·unfold Go.wpOpIn
  simp only [hi,hw,if_true,Oper.wpIn]
  refine ⟨fun f _=>hL.fn f,?_⟩
  rw [Oper.semAt_plain _ _ _ (kZ hnd hi),hx,Oper.uponIn_enter]
  refine ⟨hL.dp,hc.mono ?_⟩
  rintro e w' ⟨v,rfl,hg,h⟩
  show _∧_
  rw [hd]
  exact ⟨fun e=>absurd e his,fun _=>⟨hg,h⟩⟩
 ·exact hs j hj
theorem AllX.value (hL:Lets F n) (i d:Nat) (v:Value) (w':World) {oi:Oper} {k:Nat} {listed:Array Bool} {a:Act} {w:World} {rs:List Nat} (hi:ops[i]?=some oi) (hd:oi.dst=some d) (his:i≠s) (hnd:yp ops=true) (hw:Region.wanted oi (yielded ops a.tmps)=true)
  (hx:(execOp a.eval oi).run Tryz.prog w=.ok (.value v) w') (hg:G w w') (h:wpX s F n md ops Q k (listed.setIfInBounds i true) (a.put (some d) v) w')
  (hs:AllX s F n md ops Q k listed a w rs):AllX s F n md ops Q k listed a w (i::rs):=fun j hj=>by
 rcases List.mem_cons.1 hj with rfl | hj
 ·unfold Go.wpOpIn
  simp only [hi,hw,if_true,Oper.wpIn]
  refine ⟨fun f _=>hL.fn f,?_⟩
  rw [Oper.semAt_plain _ _ _ (kZ hnd hi),hx,Oper.uponIn_value]
  rw [hd]
  exact ⟨fun e=>absurd e his,fun _=>⟨hg,h⟩⟩
 ·exact hs j hj
theorem zk {k:Nat} {listed:Array Bool} {a:Act} {w0:World} (hr:Region.ready md ops listed=[s]) (h:∀ w,G w0 w→wpAnyIn F n Tryz.prog md ops Q (k+1) listed a w):wpX s F n md ops Q (k+1) listed a w0:=fun w hg=>by
 refine ⟨fun e=>(by rw [hr] at e;cases e),fun j hj=>?_⟩
 have hj':=hj
 rw [hr] at hj'
 obtain rfl:j=s:=by simpa using hj'
 exact wpOpIn_mono (fun a' w' h'=>⟨fun _=>h',fun e=>absurd rfl e⟩) ((h w hg).2 j hj)
end
def up (l:List Nat):List Int:=l.map Int.ofNat
theorem aB (l:List Nat):(up l).length=l.length:=by simp [up]
theorem a2S:up []=[]:=rfl
theorem zP (a b:List Nat):up (a++b)=up a++up b:=by simp [up]
theorem a2T {a b:List Nat} (h:up a=up b):a=b:=by
 exact List.map_inj_right (f:=Int.ofNat) (fun x y e=>Int.ofNat.inj e) |>.1 h
theorem a2U (l:List Nat) (i:Nat):(up l).getD i 0=((l.getD i 0:Nat):Int):=by
 simp only [up,List.getD_eq_getElem?_getD,List.getElem?_map]
 cases l[i]?<;>rfl
theorem zd (ls:List (List Nat)):up ls.flatten=(ls.map up).flatten:=by
 induction ls with
 | nil=>rfl
 | cons a t ih=>rw [List.flatten_cons,zP,ih,List.map_cons,List.flatten_cons]
theorem zp {w:World} {v:Value} {l:List Nat}:Wi.Has w v (up l)↔Su.Has w v l:=by
 unfold Wi.Has Su.Has
 rw [aB]
 constructor
 ·rintro (⟨h1,h2⟩ | ⟨a,cap,h1,h2,h3⟩)
  ·exact .inl ⟨h1,by rw [← a2S] at h2;exact a2T h2⟩
  ·exact .inr ⟨a,cap,h1,h2,fun i hi=>by rw [h3 i hi,a2U];rfl⟩
 ·rintro (⟨h1,rfl⟩ | ⟨a,cap,h1,h2,h3⟩)
  ·exact .inl ⟨h1,rfl⟩
  ·exact .inr ⟨a,cap,h1,h2,fun i hi=>by rw [h3 i hi,a2U];rfl⟩
theorem xC {w:World} {lo:Nat} {v:Value} {l:List Nat}:Wi.Owns w lo v (up l)↔Su.Owns w lo v l:=by
 unfold Wi.Owns Su.Owns up
 rw [List.length_map,List.map_map]
 rfl
def encN (n:Nat):List Nat:=(Wire.enc n).map Int.toNat
theorem cR (n:Nat):up (encN n)=Wire.enc n:=by
 unfold up encN
 rw [List.map_map]
 have h:=Wire.dw n
 revert h
 generalize Wire.enc n=l
 intro h
 induction l with
 | nil=>rfl
 | cons a t ih=>
  have h1:=(h a (by simp)).1
  rw [List.map_cons,ih fun x hx=>h x (by simp [hx])]
  simp only [Function.comp]
  rw [show Int.ofNat a.toNat=a from Int.toNat_of_nonneg h1]
theorem yE (n:Nat):Su.Bytes (encN n):=fun x hx=>by
 obtain ⟨y,hy,rfl⟩:=List.mem_map.1 hx
 have:=Wire.dw n y hy
 omega
theorem pV (n:Nat):(encN n).length=(Wire.enc n).length:=by simp [encN]
theorem ju {n:Nat} (h:n<18446744073709551616):(encN n).length≤10:=by rw [pV];exact Wire.yn h
def strN (s:ByteArray):List Nat:=s.data.toList.map fun c=>c.toNat
theorem mT (s:ByteArray):up (strN s)=Wi.strB s:=by unfold up strN Wi.strB;rw [List.map_map];rfl
theorem i5 (s:ByteArray):Su.Bytes (strN s):=fun x hx=>by
 obtain ⟨y,_,rfl⟩:=List.mem_map.1 hx
 exact y.toNat_lt
theorem ze (s:ByteArray):(strN s).length=s.size:=by simp [strN]
theorem mU (vb:Value) (b:List Nat) (n:Nat) (w:World) (hb:Su.Has w vb b) (hn:n<18446744073709551616) (hlen:b.length≤1000000):
  Calls Tryz.prog 117 #[vb,.int .u64 n] w fun e w'=>∃ v,e=.returned v∧Su.Owns w' w.heap.size v (b++encN n)∧G w w':=by
 refine (Wi.fR vb (up b) n w (zp.2 hb) hn (by rw [aB];exact hlen)).mono ?_
 rintro e w' ⟨v,rfl,h1,h2⟩
 rw [← cR,← zP] at h1
 exact ⟨v,rfl,xC.1 h1,h2⟩
theorem mV (vb:Value) (b:List Nat) (s:ByteArray) (w:World) (hb:Su.Has w vb b) (hs:s.size≤100000) (hlen:b.length≤800000):
  Calls Tryz.prog 116 #[vb,.string s] w fun e w'=>∃ v,e=.returned v∧Su.Owns w' w.heap.size v (b++(encN s.size++strN s))∧G w w':=by
 refine (Wi.fS vb (up b) s w (zp.2 hb) hs (by rw [aB];exact hlen)).mono ?_
 rintro e w' ⟨v,rfl,h1,h2⟩
 rw [← cR,← mT,← zP,← zP] at h1
 exact ⟨v,rfl,xC.1 h1,h2⟩
theorem mW (vb:Value) (b:List Nat) (w:World) (hb:Su.Has w vb b) (hlen:b.length≤16777216):
  Calls Tryz.prog 73 #[vb] w fun e w'=>∃ v,e=.returned v∧Su.Owns w' w.heap.size v b∧G w w':=by
 refine (Wi.bT vb (up b) w (zp.2 hb) (by rw [aB];exact hlen)).mono ?_
 rintro e w' ⟨v,rfl,h1,h2⟩
 exact ⟨v,rfl,xC.1 h1,h2⟩
theorem pW (K cap:Nat) (vs:List Value) (ls:List (List Nat)) (w:World) (hl:ls.length=vs.length) (hn:vs.length≤1000)
  (hcell:∀ i,i<vs.length→w.cell? ⟨K,i,none⟩=some (vs.getD i undef)) (hhas:∀ i,i<vs.length→Su.Has w (vs.getD i undef) (ls.getD i [])) (hlen:ls.flatten.length≤16777216):
  Calls Tryz.prog 131 #[.slice (some ⟨K,0,none⟩) vs.length cap] w fun e w'=>∃ v,e=.returned v∧Su.Owns w' w.heap.size v ls.flatten∧G w w':=by
 refine (Wi.xx K cap vs (ls.map up) w (by simpa using hl) hn hcell (fun i hi=>?_) (by rw [← zd,aB];exact hlen)).mono ?_
 ·have:=zp.2 (hhas i hi)
  have e:(ls.map up).getD i []=up (ls.getD i []):=by
   simp only [List.getD_eq_getElem?_getD,List.getElem?_map]
   cases ls[i]?<;>rfl
  rw [e];exact this
 rintro e w' ⟨v,rfl,h1,h2⟩
 rw [← zd] at h1
 exact ⟨v,rfl,xC.1 h1,h2⟩
abbrev shaL (l:List Nat):List Nat:=Su.Sha.sha l
theorem a01 (v:Value) (b:List Nat) (w:World) (K:Nat) (hK:w.cell? ⟨K,0,none⟩=some v) (hb:Su.Has w v b) (hB:Su.Bytes b) (hT:Su.Tabs w) (hl:b.length<1152921504606846976):
  Calls Tryz.prog 63 #[.slice (some ⟨K,0,none⟩) 1 1] w fun e w'=>e=.returned (.agg ((shaL b).map Su.vb).toArray)∧G w w':=by
 have:=Su.a0M (.slice (some ⟨K,0,none⟩) 1 1) [b] w ?_ (by simpa using hB) hT (by simpa using hl) (by simp)
 ·simp only [List.flatten_cons,List.flatten_nil,List.append_nil] at this
  exact this
 ·exact .inr ⟨⟨K,0,none⟩,1,rfl,Nat.le_refl _,fun i hi=>by
   have:i=0:=by simp at hi;omega
   subst this
   exact ⟨v,hK,by simpa using hb⟩⟩
theorem cS {o:Oper} {a:Act} (s x:Operand) (ho:o.op=.call { callee:=.builtin .append,args:=#[s,x],argTypes:=#[25,25] }) (lo:Nat) (v vx:Value) (m l:List Nat) (w:World) (hs:a.eval s=v) (hx:a.eval x=vx) (hown:Su.Owns w lo v m) (hhas:Su.Has w vx l)
  (hlen:m.length+l.length≤16777216) (hb:lo≤w.heap.size):∃ v' w',(execOp a.eval o).run Tryz.prog w=.ok (.value v') w'∧Su.Owns w' lo v' (m++l)∧w.grownBy w' v.ownBlock∧(v'.ownBlock=v.ownBlock∨v'.ownBlock=some w.heap.size):=by
 obtain ⟨i0,hi,hz0,hz1,hz2⟩:=info_parts Su.Tryz.info5
 rcases hhas with ⟨rfl,rfl⟩ | ⟨ad,cap,rfl,hc,hcell⟩
 ·have hr:=run_append_owned_none (P:=Tryz.prog) (w:=w) lo 25 o.type 5 i0 1 Tryz.underlying25 hi v m.length (m.map Su.vb) hown
  refine ⟨v,w,?_,by simpa using hown,⟨rfl,rfl,rfl,Nat.le_refl _,fun _ _ _=>rfl⟩,.inl rfl⟩
  unfold execOp
  simp only [ho,resolve,invoke,builtin,Sem.run_bind,Sem.run_pure,Result.andThen_ok,List.map_toArray,List.map_cons,List.map_nil,hs,hx,hr]
 ·obtain ⟨v',w',hr,h2,h3,_,h5⟩:=run_append_own_at (P:=Tryz.prog) w lo 25 o.type 5 i0 (.int .u8 0) 1 1 Tryz.underlying25 hi hz0 hz1 hz2 rfl (by decide) v m.length (m.map Su.vb) hown ad l.length cap (l.map Su.vb) (by simp)
   (fun j u hj=>by
    have hjl:j<l.length:=by have:=(List.getElem?_eq_some_iff.1 hj).1;simpa using this
    rw [hcell j hjl]
    rw [List.getElem?_map,gl hjl] at hj
    rw [List.getD_eq_getElem?_getD,gl hjl]
    exact hj)
   (fun u hu=>by obtain ⟨x,_,rfl⟩:=List.mem_map.1 hu;rfl) (by unfold maxLen;omega) (by omega) hb
  refine ⟨v',w',?_,?_,h3,h5⟩
  ·unfold execOp
   simp only [ho,resolve,invoke,builtin,Sem.run_bind,Sem.run_pure,Result.andThen_ok,List.map_toArray,List.map_cons,List.map_nil,hs,hx,hr]
  ·unfold Su.Owns
   rw [List.length_append,List.map_append]
   exact h2
theorem kT (g o:Nat) (wz:World):(Instr.sliceAt 22 (.pointer (some ⟨g,o,none⟩)) none none none).run Tryz.prog wz=.ok (.slice (some ⟨g,o,none⟩) 32 32) wz:=by
 rw [run_sliceAt_array_all wz 22 ⟨g,o,none⟩ Tryz.underlying22]
 have h1:(Tryz.prog.info? (Tryz.prog.elem 22)).map (·.size)=some 1:=by kernel_rfl
 cases hq:Tryz.prog.info? (Tryz.prog.elem 22) with
 | none=>simp [hq] at h1
 | some i=>
  have hs:i.size=1:=by simpa [hq] using h1
  rw [show Tryz.prog.arrayLen 22=32 by kernel_rfl]
  simp [sizeOf,typeInfo,hq,hs,slicedAt,Addr.add,Result.andThen]
theorem pX {w:World} {g o:Nat} {p:List Nat} (hl:∀ j u,(p.map Su.vb)[j]?=some u→w.cell? ⟨g,o+j,none⟩=some u):Su.Has w (.slice (some ⟨g,o,none⟩) p.length p.length) p:=by
 refine .inr ⟨_,_,rfl,Nat.le_refl _,fun i hi=>?_⟩
 rw [Su.aV]
 refine hl i _ ?_
 rw [List.getElem?_map,gl hi,List.getD_eq_getElem?_getD,gl hi]
 rfl
def j7:List Nat:=List.replicate 32 0
def jl (n:Nat):Nat:=2 ^ Nat.log2 (n-1)
def ownT (v:Vd) (count:Nat) (top:List Nat):List Nat:=
 if v.kind=2 then 70::(encN v.mode.toNat++(encN v.size.toNat++v.sum)) else if v.kind=3 then 76::(encN v.size.toNat++v.sum) else 68::(encN v.mode.toNat++(encN count++top))
def qg (nm:ByteArray) (h:List Nat):List Nat:=78::(encN nm.size++(strN nm++h))
def jw (a b:List Nat):List Nat:=73::(a++b)
theorem zQ {n:Nat} (h:2≤n):1≤jl n∧jl n<n:=by
 unfold jl
 have h1:n-1≠0:=by omega
 have:=(Nat.le_log2 (k:=Nat.log2 (n-1)) h1).1 (Nat.le_refl _)
 exact ⟨Nat.one_le_two_pow,by omega⟩
theorem zR (l:List Nat):(shaL l).length=32:=Su.zR l
def hgt (count place:Nat):Nat:=
 if h:2≤count then (if place<jl count then hgt (jl count) place else hgt (count-jl count) (place-jl count))+1 else 0
termination_by count
decreasing_by all_goals (have:=zQ h;omega)
theorem zz {count:Nat} (h:¬ 2≤count) (place:Nat):hgt count place=0:=by rw [hgt,dif_neg h]
theorem bl {count place:Nat} (h:2≤count) (hp:place<jl count):hgt count place=hgt (jl count) place+1:=by rw [hgt,dif_pos h,if_pos hp]
theorem bm {count place:Nat} (h:2≤count) (hp:¬ place<jl count):hgt count place=hgt (count-jl count) (place-jl count)+1:=by rw [hgt,dif_pos h,if_neg hp]
theorem lq {n:Nat} (h:2≤n):n≤2*jl n:=by
 unfold jl
 have h1:n-1≠0:=by omega
 have:=Nat.lt_log2_self (n:=n-1)
 rw [Nat.pow_succ] at this
 omega
theorem pL {n k:Nat} (h:2≤n) (hk:n≤2 ^ (k+1)):jl n≤2 ^ k:=by
 unfold jl
 have h1:n-1≠0:=by omega
 have:Nat.log2 (n-1)<k+1:=(Nat.log2_lt h1).2 (by omega)
 exact Nat.pow_le_pow_right (by decide) (by omega)
theorem xz:∀ (k count place:Nat),count≤2 ^ k→hgt count place≤k
 | 0,count,place,h=>by rw [zz (by simp at h;omega)];omega
 | k+1,count,place,h=>by
  by_cases h2:2≤count
  ·have e1:=pL h2 h
   have e2:=lq h2
   by_cases hp:place<jl count
   ·rw [bl h2 hp];have:=xz k _ place e1;omega
   ·rw [bm h2 hp];have:=xz k (count-jl count) (place-jl count) (by omega);omega
  ·rw [zz h2];omega
structure Pv where
 s:Wi.St
 bad:Bool
def Pv.dead (r:Pv):Prop:=r.bad=true∨r.s.fe≠0
def numP (l:List Int) (most:Nat) (r:Pv):Nat × Pv:=((Wi.uintS l r.s most).1,⟨(Wi.uintS l r.s most).2,r.bad⟩)
def h32 (x:List Int):List Nat:=if x.length=32 then x.map Int.toNat else j7
theorem qO (x:List Int):(h32 x).length=32:=by
 unfold h32
 split
 ·simpa using ‹x.length=32›
 ·simp [j7]
def sumP (l:List Int) (r:Pv):List Nat × Pv:=(h32 (Wi.rawB l r.s 32),⟨Wi.rawS l r.s 32,r.bad⟩)
def qd (b:Bool) (r:Pv):Pv:=⟨r.s,r.bad||!b⟩
def kQ (l:List Int):Nat→Pv→List (List Nat) × Pv
 | 0,r=>([],r)
 | n+1,r=>((sumP l r).1::(kQ l n (sumP l r).2).1,(kQ l n (sumP l r).2).2)
theorem ah (l:List Int):∀ (n:Nat) (r:Pv),(kQ l n r).1.length=n
 | 0,_=>rfl
 | n+1,r=>by simp [kQ,ah l n]
theorem fw (l:List Int):∀ (n:Nat) (r:Pv),∀ x∈(kQ l n r).1,x.length=32
 | 0,_,x,h=>by simp [kQ] at h
 | n+1,r,x,h=>by
  rw [kQ] at h
  rcases List.mem_cons.1 h with rfl | h
  ·exact qO _
  ·exact fw l n _ x h
structure Sp where
 count:Nat
 place:Nat
 sib:List (List Nat)
def kg (l:List Int) (count place:Nat) (r:Pv):Sp × Pv:=
 if count≤place then (⟨count,place,[]⟩,⟨r.s,true⟩) else (⟨count,place,(kQ l (hgt count place) r).1⟩,(kQ l (hgt count place) r).2)
structure Sq where
 mode:Nat
 sp:Sp
def yZ (l:List Int) (r:Pv):Sq × Pv:=
 let a:=numP l 8 r
 let b:=numP l 1048576 a.2
 let c:=numP l 1048576 b.2
 (⟨a.1,(kg l b.1 c.1 c.2).1⟩,(kg l b.1 c.1 c.2).2)
structure Sd where
 name:ByteArray
 hash:List Nat
 sp:Sp
def dN (l:List Int) (r:Pv):ByteArray × Pv:=(Wi.mkStr (Wi.textS l r.s 255).1,⟨(Wi.textS l r.s 255).2,r.bad⟩)
def qn (l:List Int) (count place:Nat) (r:Pv):Sd × Pv:=
 let a:=dN l r
 let b:=sumP l a.2
 let c:=qd (nameB (tl a.1)) b.2
 (⟨a.1,b.1,(kg l count place c).1⟩,(kg l count place c).2)
structure Cm where
 steps:List Sq
 value:Vd
 count:Nat
 top:List Nat
 sides:List Sd
def m0:Md:=⟨0,0,0,0⟩
theorem jC:j7.length=32:=by simp [j7]
def vz:Vd:=⟨0,0,0,j7,jC⟩
def valB (v:Vd):Bool:=decide (v=vz)||decide (ownE v m0 false=0)
def mkV (k m z:Int) (s:List Nat):Vd:=if h:s.length=32 then ⟨k,m,z,s,h⟩ else vz
def cm0:Cm:=⟨[],vz,0,j7,[]⟩
def yf (l:List Int) (v:Vd) (c:Cm) (r:Pv):Cm × Pv:=
 if v.kind=1 then
  let a:=numP l 1048576 r
  let b:=sumP l a.2
  ({ c with value:=v,count:=a.1,top:=b.1 },qd (decide (0<a.1)||decide (b.1=j7)) b.2)
 else ({ c with value:=v },r)
def ltS (a b:ByteArray):Bool:=Op.bytesLess a.toList b.toList
def gtS (a b:ByteArray):Bool:=!(Op.bytesLess a.toList b.toList||a.toList==b.toList)
def gapS (l:List Int) (name:ByteArray) (b:Nat) (k:Nat × Pv) (c1:Cm):Cm × Pv:=
 let d:=qn l b (k.1-1) k.2
 let s1:Cm × Pv:=if 0<k.1 then ({ c1 with sides:=c1.sides++[d.1] },qd (ltS d.1.name name) d.2) else (c1,k.2)
 let e:=qn l b k.1 s1.2
 if k.1<b then ({ s1.1 with sides:=s1.1.sides++[e.1] },qd (gtS e.1.name name) e.2) else s1
def gapP (l:List Int) (name:ByteArray) (c:Cm) (r:Pv):Cm × Pv:=
 let a:=numP l 8 r
 let b:=numP l 1048576 a.2
 gapS l name b.1 (numP l b.1 b.2) { c with value:=mkV 1 a.1 0 j7,count:=b.1 }
def zo (l:List Int) (c:Cm) (r:Pv):Cm × Pv:=
 let k:=Wi.byteS l r.s
 let r2:=qd (decide (k.1=2)||decide (k.1=3)) ⟨k.2,r.bad⟩
 let md:Nat × Pv:=if k.1=2 then numP l 8 r2 else (0,r2)
 let sz:=numP l 1099511627775 md.2
 let sm:=sumP l sz.2
 let v:=mkV k.1 md.1 sz.1 sm.1
 ({ c with value:=v },qd (valB v) sm.2)
def qS (l:List Int):Nat→Int→Pv→List Sq × Int × Pv
 | 0,part,r=>([],part,r)
 | n+1,part,r=>if part=1 then
   let a:=yZ l r
   let b:=Wi.byteS l a.2.s
   let c:=qS l n b.1 ⟨b.2,a.2.bad⟩
   (a.1::c.1,c.2)
  else ([],part,r)
def endP (l:List Int) (names:List ByteArray) (v:Vd) (L:List Sq) (part:Int) (r:Pv):Cm × Pv:=
 let c:Cm:={ cm0 with steps:=L }
 if part=2∧L.length=names.length∧v.kind≠0 then yf l v c r
 else if part=3∧L.length≠names.length∧v.kind=0 then gapP l (names.getD L.length ⟨#[]⟩) c r
 else if part=4∧L.length≠names.length∧v.kind=0 then zo l c r
 else (c,⟨r.s,true⟩)
def yg (l:List Int) (names:List ByteArray) (v:Vd) (r:Pv):Cm × Pv:=
 let b:=Wi.byteS l r.s
 let t:=qS l names.length b.1 ⟨b.2,r.bad⟩
 endP l names v t.1 t.2.1 t.2.2
def p0:Pv:=⟨⟨0,0,0⟩,false⟩
def bZ (l:List Int) (names:List ByteArray) (v:Vd):Option Cm:=
 let a:=yg l names v p0
 if a.2.bad=true∨(Wi.endS l a.2.s).fe≠0 then none else some a.1
def yQ (H:List Nat→List Nat) (x:List Nat):Nat→Nat→List (List Nat)→List Nat
 | _,_,[]=>x
 | count,place,t::r=>if place<jl count then H (jw (yQ H x (jl count) place r) t) else H (jw t (yQ H x (count-jl count) (place-jl count) r))
def topH (H:List Nat→List Nat) (nm:ByteArray) (h:List Nat) (p:Sp):List Nat:=yQ H (H (qg nm h)) p.count p.place p.sib.reverse
def kh (H:List Nat→List Nat):Nat→List Nat→List Sd→Option (List Nat)
 | _,t,[]=>some t
 | i,t,d::r=>if 0<i∧topH H d.name d.hash d.sp≠t then none else kh H (i+1) (topH H d.name d.hash d.sp) r
def dirT (mode count:Nat) (top:List Nat):List Nat:=68::(encN mode++(encN count++top))
def yI (H:List Nat→List Nat):List (ByteArray × Sq)→List Nat→List Nat
 | [],t=>t
 | (nm,s)::r,t=>yI H r (dirT s.mode s.sp.count (topH H nm (H t) s.sp))
def kG (H:List Nat→List Nat) (names:List ByteArray) (c:Cm):Option (List Nat):=
 (kh H 0 c.top c.sides).map fun top=>yI H (names.zip c.steps).reverse (ownT c.value c.count top)
def a2I (H:List Nat→List Nat) (l:List Int) (names:List ByteArray) (v:Vd):Option (List Nat):=(bZ l names v).bind (kG H names)
def qf (l:List Int):Nat→Wi.St→List (List Nat) × Wi.St
 | 0,s=>([],s)
 | n+1,s=>(h32 (Wi.rawB l s 32)::(qf l n (Wi.rawS l s 32)).1,(qf l n (Wi.rawS l s 32)).2)
theorem eP (l:List Int):∀ (n:Nat) (r:Pv),kQ l n r=((qf l n r.s).1,⟨(qf l n r.s).2,r.bad⟩)
 | 0,_=>rfl
 | n+1,r=>by rw [kQ,qf,eP l n];rfl
def yJ (l:List Int):Nat→Int→Wi.St→Option (List Sq × Int × Wi.St)
 | 0,kind,s=>some ([],kind,s)
 | n+1,kind,s=>if s.fe=0∧kind=1 then
   let a:=Wi.uintS l s 8
   let b:=Wi.uintS l a.2 1048576
   let c:=Wi.uintS l b.2 1048576
   if c.2.fe≠0∨b.1≤c.1 then none else
    let d:=qf l (hgt b.1 c.1) c.2
    let e:=Wi.byteS l d.2
    (yJ l n e.1 e.2).map fun x=>(⟨a.1,⟨b.1,c.1,d.1⟩⟩::x.1,x.2)
  else some ([],kind,s)
def aM (l:List Int) (name:ByteArray) (ahead:Bool) (count i:Nat) (s:Wi.St):Option (Sd × Wi.St):=
 let x:=Wi.textS l s 255
 let d:=qf l (hgt count i) (Wi.rawS l x.2 32)
 if d.2.fe≠0∨nameB (tl (Wi.mkStr x.1))=false∨(if ahead then ltS (Wi.mkStr x.1) name else gtS (Wi.mkStr x.1) name)=false then none
 else some (⟨Wi.mkStr x.1,h32 (Wi.rawB l x.2 32),⟨count,i,d.1⟩⟩,d.2)
def gapR (H:List Nat→List Nat) (l:List Int) (name:ByteArray) (s:Wi.St):Option (List Nat × Wi.St):=
 let a:=Wi.uintS l s 8
 let b:=Wi.uintS l a.2 1048576
 let k:=Wi.uintS l b.2 1048576
 if k.2.fe≠0∨b.1<k.1 then none else
 let one:Option (Nat × List Nat × Wi.St):=if 0<k.1 then (aM l name true b.1 (k.1-1) k.2).map fun x=>(1,topH H x.1.name x.1.hash x.1.sp,x.2) else some (0,j7,k.2)
 one.bind fun t=>
  let two:Option (List Nat × Wi.St):=if k.1<b.1 then (aM l name false b.1 k.1 t.2.2).bind fun x=>if 0<t.1∧topH H x.1.name x.1.hash x.1.sp≠t.2.1 then none else some (topH H x.1.name x.1.hash x.1.sp,x.2) else some t.2
  two.map fun y=>(dirT a.1 b.1 y.1,Wi.endS l y.2)
def bn (l:List Int) (v:Vd) (s:Wi.St):Option (List Nat × Wi.St):=
 if v.kind=1 then
  let a:=Wi.uintS l s 1048576
  if a.1=0∧h32 (Wi.rawB l a.2 32)≠j7 then none else some (dirT v.mode.toNat a.1 (h32 (Wi.rawB l a.2 32)),Wi.endS l (Wi.rawS l a.2 32))
 else some (ownT v 0 j7,Wi.endS l s)
def dO (l:List Int) (s:Wi.St):Option (List Nat × Wi.St):=
 let k:=Wi.byteS l s
 if k.1≠2∧k.1≠3 then none else
 let md:Nat × Wi.St:=if k.1=2 then Wi.uintS l k.2 8 else (0,k.2)
 let sz:=Wi.uintS l md.2 1099511627775
 let v:=mkV k.1 md.1 sz.1 (h32 (Wi.rawB l sz.2 32))
 if valB v=true then some (ownT v 0 j7,Wi.endS l (Wi.rawS l sz.2 32)) else none
def xL (H:List Nat→List Nat) (l:List Int) (names:List ByteArray) (v:Vd) (n:Nat) (kind:Int) (s:Wi.St):Option (List Nat × Wi.St):=
 if kind=2∧n=names.length∧v.kind≠0 then bn l v s
 else if kind=4∧n<names.length∧v.kind=0 then dO l s
 else if kind=3∧n<names.length∧v.kind=0 then gapR H l (names.getD n ⟨#[]⟩) s
 else none
def refT (H:List Nat→List Nat) (l:List Int) (names:List ByteArray) (v:Vd):Option (List Nat):=
 let b:=Wi.byteS l ⟨0,0,0⟩
 (yJ l names.length b.1 b.2).bind fun t=>
  (xL H l names v t.1.length t.2.1 t.2.2).bind fun y=>if y.2.fe≠0 then none else some (yI H (names.zip t.1).reverse y.1)
theorem ai {l:List Int} {s:Wi.St} {m:Nat} (h:s.fe≠0):Wi.uintS l s m=(0,s):=by rw [Wi.uintS,if_pos h]
theorem pM {l:List Int} {s:Wi.St} {n:Int} (h:s.fe≠0):Wi.rawS l s n=s:=by rw [Wi.rawS,if_pos h]
theorem lr {l:List Int} {s:Wi.St} (h:s.fe≠0):Wi.byteS l s=(0,s):=by rw [Wi.byteS,if_pos h]
theorem lu {l:List Int} {s:Wi.St} {m:Int} (h:s.fe≠0):Wi.textS l s m=([],s):=by rw [Wi.textS,if_pos h]
theorem fx {l:List Int} {s:Wi.St} (h:s.fe≠0):Wi.endS l s=s:=by rw [Wi.endS,if_pos h]
theorem dP {l:List Int} {s:Wi.St} (h:(Wi.byteS l s).2.fe≠0):(Wi.byteS l s).1=0:=by
 unfold Wi.byteS at h ⊢
 split
 ·rfl
 ·rename_i h1
  rw [if_neg h1] at h
  split
  ·rename_i h2
   rw [if_pos h2] at h
   exact absurd h (by simpa using h1)
  ·rfl
theorem qw {l:List Int} {m:Nat} {r:Pv} (h:r.dead):(numP l m r).2.dead:=by
 rcases h with h | h
 ·exact .inl h
 ·right;simp only [numP];rw [ai h];exact h
theorem zL {l:List Int} {r:Pv} (h:r.dead):(sumP l r).2.dead:=by
 rcases h with h | h
 ·exact .inl h
 ·right;simp only [sumP];rw [pM h];exact h
theorem gu {l:List Int} {r:Pv} (h:r.dead):(dN l r).2.dead:=by
 rcases h with h | h
 ·exact .inl h
 ·right;simp only [dN];rw [lu h];exact h
theorem qB {b:Bool} {r:Pv} (h:r.dead):(qd b r).dead:=by
 rcases h with h | h
 ·left;simp [qd,h]
 ·exact .inr h
theorem fy {b:Bool} {r:Pv} (h:b=false):(qd b r).dead:=.inl (by simp [qd,h])
theorem bo {l:List Int}:∀ {n:Nat} {r:Pv},r.dead→(kQ l n r).2.dead
 | 0,_,h=>h
 | n+1,r,h=>by rw [kQ];exact bo (zL h)
theorem xj {l:List Int} {c p:Nat} {r:Pv} (h:r.dead):(kg l c p r).2.dead:=by
 unfold kg
 split
 ·exact .inl rfl
 ·exact bo h
theorem gy {l:List Int} {r:Pv} (h:r.dead):(yZ l r).2.dead:=xj (qw (qw (qw h)))
theorem zc {l:List Int} {c p:Nat} {r:Pv} (h:r.dead):(qn l c p r).2.dead:=xj (qB (zL (gu h)))
theorem yh {l:List Int} {r:Pv} (h:r.dead):(Pv.mk (Wi.byteS l r.s).2 r.bad).dead:=by
 rcases h with h | h
 ·exact .inl h
 ·right;rw [lr h];exact h
theorem xA {l:List Int}:∀ {n:Nat} {part:Int} {r:Pv},r.dead→(qS l n part r).2.2.dead
 | 0,_,_,h=>h
 | n+1,part,r,h=>by
  rw [qS]
  split
  ·exact xA (yh (gy h))
  ·exact h
theorem eQ {l:List Int} {v:Vd} {c:Cm} {r:Pv} (h:r.dead):(yf l v c r).2.dead:=by
 unfold yf
 split
 ·exact qB (zL (qw h))
 ·exact h
theorem aj {l:List Int} {name:ByteArray} {b:Nat} {k:Nat × Pv} {c1:Cm} (h:k.2.dead):(gapS l name b k c1).2.dead:=by
 unfold gapS
 have h1:(if 0<k.1 then (({ c1 with sides:=c1.sides++[(qn l b (k.1-1) k.2).1] }:Cm),qd (ltS (qn l b (k.1-1) k.2).1.name name) (qn l b (k.1-1) k.2).2) else (c1,k.2)).2.dead:=by
  split
  ·exact qB (zc h)
  ·exact h
 simp only
 revert h1
 generalize (if 0<k.1 then (({ c1 with sides:=c1.sides++[(qn l b (k.1-1) k.2).1] }:Cm),qd (ltS (qn l b (k.1-1) k.2).1.name name) (qn l b (k.1-1) k.2).2) else (c1,k.2))=s1
 intro h1
 split
 ·exact qB (zc h1)
 ·exact h1
theorem lw {l:List Int} {name:ByteArray} {c:Cm} {r:Pv} (h:r.dead):(gapP l name c r).2.dead:=aj (qw (qw (qw h)))
theorem eR {l:List Int} {c:Cm} {r:Pv} (h:r.dead):(zo l c r).2.dead:=by
 unfold zo
 simp only
 refine qB (zL (qw ?_))
 split
 ·exact qw (qB (yh h))
 ·exact qB (yh h)
theorem dQ {l:List Int} {names:List ByteArray} {v:Vd} {L:List Sq} {part:Int} {r:Pv} (h:r.dead):(endP l names v L part r).2.dead:=by
 unfold endP
 simp only
 split
 ·exact eQ h
 ·split
  ·exact lw h
  ·split
   ·exact eR h
   ·exact .inl rfl
def finP (l:List Int) (a:Cm × Pv):Option Cm:=if a.2.bad=true∨(Wi.endS l a.2.s).fe≠0 then none else some a.1
theorem qz {l:List Int} {a:Cm × Pv} (h:a.2.dead):finP l a=none:=by
 unfold finP
 rw [if_pos]
 rcases h with h | h
 ·exact .inl h
 ·right;rw [fx h];exact h
theorem zM {l:List Int} {c:Cm} {s:Wi.St}:finP l (c,⟨s,false⟩)=if (Wi.endS l s).fe≠0 then none else some c:=by
 unfold finP
 simp
theorem gA (l:List Int):∀ (n:Nat) (kind:Int) (s:Wi.St),(s.fe≠0→kind=0)→match yJ l n kind s with
  | none=>(qS l n kind ⟨s,false⟩).2.2.dead
  | some x=>qS l n kind ⟨s,false⟩=(x.1,x.2.1,⟨x.2.2,false⟩)∧x.1.length≤n
 | 0,kind,s,_=>by simp [yJ,qS]
 | n+1,kind,s,hk=>by
  rw [yJ,qS]
  by_cases h1:kind=1
  ·have hs:s.fe=0:=by
    by_cases h:s.fe=0
    ·exact h
    ·have:=hk h;omega
   rw [if_pos ⟨hs,h1⟩,if_pos h1]
   simp only [yZ,numP]
   generalize Wi.uintS l s 8=a
   generalize Wi.uintS l a.2 1048576=b
   generalize Wi.uintS l b.2 1048576=c
   by_cases h2:c.2.fe≠0∨b.1≤c.1
   ·rw [if_pos h2]
    simp only
    refine xA (yh (r:=(kg l b.1 c.1 ⟨c.2,false⟩).2) ?_)
    rcases h2 with h2 | h2
    ·exact xj (.inr h2)
    ·unfold kg
     rw [if_pos h2]
     exact .inl rfl
   ·rw [if_neg h2]
    simp only [kg,if_neg fun q=>h2 (.inr q),eP]
    generalize qf l (hgt b.1 c.1) c.2=d
    have ih:=gA l n (Wi.byteS l d.2).1 (Wi.byteS l d.2).2 dP
    cases hr:yJ l n (Wi.byteS l d.2).1 (Wi.byteS l d.2).2 with
    | none=>rw [hr] at ih;exact ih
    | some x=>
     rw [hr] at ih
     simp only [Option.map_some]
     rw [ih.1]
     exact ⟨rfl,by simp;exact ih.2⟩
  ·rw [if_neg fun q=>h1 q.2,if_neg h1]
   exact ⟨rfl,by simp⟩
theorem rightV {v:Vd} (h:valB v=true) (hk:v.kind≠0):(v.kind=1∨v.kind=2∨v.kind=3)∧jV v=true:=by
 unfold valB at h
 rw [Bool.or_eq_true] at h
 rcases h with h | h
 ·have:=of_decide_eq_true h
  rw [this] at hk
  exact absurd rfl hk
 ·have:=of_decide_eq_true h
  unfold ownE at this
  split at this
  ·omega
  ·rename_i h1
   refine ⟨by omega,?_⟩
   simp only [Bool.false_eq_true,false_and,if_false] at this
   split at this
   ·omega
   ·rename_i h2;simpa using h2
theorem pN (H:List Nat→List Nat) (l:List Int) (names:List ByteArray) (v:Vd) (L:List Sq) (s:Wi.St) (hv:valB v=true) (hk:v.kind≠0):
  (finP l (yf l v { cm0 with steps:=L } ⟨s,false⟩)).bind (kG H names)=(bn l v s).bind fun y=>if y.2.fe≠0 then none else some (yI H (names.zip L).reverse y.1):=by
 have hr:=rightV hv hk
 unfold yf bn
 by_cases h1:v.kind=1
 ·rw [if_pos h1,if_pos h1]
  simp only [numP,sumP]
  obtain ⟨a,ha⟩:∃ a,Wi.uintS l s 1048576=a:=⟨_,rfl⟩
  simp only [ha]
  by_cases h2:a.1=0∧h32 (Wi.rawB l a.2 32)≠j7
  ·rw [if_pos h2,qz (fy (by simp [h2.1,h2.2]))]
   rfl
  ·rw [if_neg h2]
   have hb:(decide (0<a.1)||decide (h32 (Wi.rawB l a.2 32)=j7))=true:=by
    by_cases h0:a.1=0
    ·have:h32 (Wi.rawB l a.2 32)=j7:=by
      by_cases q:h32 (Wi.rawB l a.2 32)=j7
      ·exact q
      ·exact absurd ⟨h0,q⟩ h2
     simp [this]
    ·have:0<a.1:=by omega
     simp [this]
   rw [hb]
   simp only [qd,Bool.not_true,Bool.or_self]
   rw [zM]
   simp only [Option.bind_some]
   split
   ·rfl
   ·simp only [Option.bind_some,kG,cm0,kh,Option.map_some]
    have:ownT v a.1 (h32 (Wi.rawB l a.2 32))=dirT v.mode.toNat a.1 (h32 (Wi.rawB l a.2 32)):=by
     unfold ownT dirT
     rw [if_neg (by omega),if_neg (by omega)]
    rw [this]
 ·rw [if_neg h1,if_neg h1,zM]
  simp only [Option.bind_some]
  split
  ·rfl
  ·simp only [Option.bind_some,kG,cm0,kh,Option.map_some]
theorem jh {k m z:Int} {s:List Nat} (h:s.length=32):mkV k m z s=⟨k,m,z,s,h⟩:=by rw [mkV,dif_pos h]
theorem pO (H:List Nat→List Nat) (l:List Int) (names:List ByteArray) (L:List Sq) (s:Wi.St):
  (finP l (zo l { cm0 with steps:=L } ⟨s,false⟩)).bind (kG H names)=(dO l s).bind fun y=>if y.2.fe≠0 then none else some (yI H (names.zip L).reverse y.1):=by
 unfold zo dO
 simp only
 generalize Wi.byteS l s=k
 by_cases h1:k.1≠2∧k.1≠3
 ·rw [if_pos h1,qz]
  ·rfl
  ·refine qB (zL (qw ?_))
   rw [if_neg h1.1]
   exact fy (by simp [h1.1,h1.2])
 ·rw [if_neg h1]
  have hb:(decide (k.1=2)||decide (k.1=3))=true:=by
   by_cases q:k.1=2
   ·simp [q]
   ·by_cases q3:k.1=3
    ·simp [q3]
    ·exact absurd ⟨q,q3⟩ h1
  simp only [hb,qd,Bool.not_true,Bool.or_self]
  have hmd:(if k.1=2 then numP l 8 ⟨k.2,false⟩ else (0,⟨k.2,false⟩))=((if k.1=2 then Wi.uintS l k.2 8 else (0,k.2)).1,⟨(if k.1=2 then Wi.uintS l k.2 8 else (0,k.2)).2,false⟩):=by
   split<;>rfl
  rw [hmd]
  generalize (if k.1=2 then Wi.uintS l k.2 8 else (0,k.2))=md
  simp only [numP,sumP]
  generalize Wi.uintS l md.2 1099511627775=sz
  generalize hv:mkV k.1 md.1 sz.1 (h32 (Wi.rawB l sz.2 32))=v
  have hvk:v.kind=k.1:=by rw [← hv,jh (qO _)]
  by_cases h2:valB v=true
  ·rw [if_pos h2,h2]
   simp only [Bool.not_true,Bool.or_self]
   rw [zM]
   simp only [Option.bind_some]
   split
   ·rfl
   ·simp only [Option.bind_some,kG,cm0,kh,Option.map_some]
  ·rw [if_neg h2,qz]
   ·rfl
   ·left;simp [h2]
theorem lz {l:List Int} {s:Wi.St} {m M:Nat} (hm:m≤M) (h:s.fe=0):((Wi.uintS l s M).2.fe≠0∨m<(Wi.uintS l s M).1)∧(Wi.uintS l s m).2.fe≠0∨¬ ((Wi.uintS l s M).2.fe≠0∨m<(Wi.uintS l s M).1)∧Wi.uintS l s m=Wi.uintS l s M:=by
 unfold Wi.uintS
 rw [if_neg (by simpa using h),if_neg (by simpa using h)]
 cases Wire.rd 0 (l.drop s.p) with
 | ok n k=>
  simp only
  by_cases h1:n≤m
  ·rw [if_pos h1,if_pos (by omega)]
   right
   simp [h];omega
  ·rw [if_neg h1]
   left
   refine ⟨?_,by simp⟩
   by_cases h2:n≤M
   ·rw [if_pos h2];right;simp;omega
   ·rw [if_neg h2];left;simp
 | form i=>left;simp
 | short=>left;simp
theorem eS {l:List Int} {name:ByteArray} {ahead:Bool} {count i:Nat} {s:Wi.St} (hi:i<count):match aM l name ahead count i s with
  | none=>(qd (if ahead then ltS (qn l count i ⟨s,false⟩).1.name name else gtS (qn l count i ⟨s,false⟩).1.name name) (qn l count i ⟨s,false⟩).2).dead
  | some x=>qn l count i ⟨s,false⟩=(x.1,⟨x.2,false⟩)∧(if ahead then ltS x.1.name name else gtS x.1.name name)=true:=by
 unfold aM qn
 simp only [dN,sumP]
 generalize Wi.textS l s 255=x
 have hsp:∀ b,kg l count i ⟨Wi.rawS l x.2 32,b⟩=(⟨count,i,(qf l (hgt count i) (Wi.rawS l x.2 32)).1⟩,⟨(qf l (hgt count i) (Wi.rawS l x.2 32)).2,b⟩):=fun b=>by
  unfold kg
  rw [if_neg (by omega),eP]
 simp only [qd,Bool.false_or]
 rw [hsp]
 generalize qf l (hgt count i) (Wi.rawS l x.2 32)=d
 simp only
 by_cases h1:d.2.fe≠0∨nameB (tl (Wi.mkStr x.1))=false∨(if ahead then ltS (Wi.mkStr x.1) name else gtS (Wi.mkStr x.1) name)=false
 ·rw [if_pos h1]
  rcases h1 with h1 | h1 | h1
  ·exact .inr h1
  ·left;simp [h1]
  ·left;simp [h1]
 ·rw [if_neg h1]
  have h2:nameB (tl (Wi.mkStr x.1))=true:=by
   cases q:nameB (tl (Wi.mkStr x.1)) with
   | true=>rfl
   | false=>exact absurd (.inr (.inl q)) h1
  simp only [h2,Bool.not_true]
  refine ⟨trivial,?_⟩
  cases q:(if ahead then ltS (Wi.mkStr x.1) name else gtS (Wi.mkStr x.1) name) with
  | true=>rfl
  | false=>exact absurd (.inr (.inr q)) h1
theorem a2J (H:List Nat→List Nat) (l:List Int) (names:List ByteArray) (name:ByteArray) (L:List Sq) (s:Wi.St):
  (finP l (gapP l name { cm0 with steps:=L } ⟨s,false⟩)).bind (kG H names)=(gapR H l name s).bind fun y=>if y.2.fe≠0 then none else some (yI H (names.zip L).reverse y.1):=by
 unfold gapR
 have hg:gapP l name { cm0 with steps:=L } ⟨s,false⟩=gapS l name (Wi.uintS l (Wi.uintS l s 8).2 1048576).1 ((Wi.uintS l (Wi.uintS l (Wi.uintS l s 8).2 1048576).2 (Wi.uintS l (Wi.uintS l s 8).2 1048576).1).1,⟨(Wi.uintS l (Wi.uintS l (Wi.uintS l s 8).2 1048576).2 (Wi.uintS l (Wi.uintS l s 8).2 1048576).1).2,false⟩)
   { cm0 with steps:=L,value:=mkV 1 (Wi.uintS l s 8).1 0 j7,count:=(Wi.uintS l (Wi.uintS l s 8).2 1048576).1 }:=rfl
 rw [hg]
 clear hg
 simp only
 obtain ⟨a,ha⟩:∃ a,Wi.uintS l s 8=a:=⟨_,rfl⟩
 simp only [ha]
 have hbm:(Wi.uintS l a.2 1048576).1≤1048576:=by
  unfold Wi.uintS
  split
  ·simp
  ·split
   ·split<;>simp;assumption
   ·simp
   ·simp
 obtain ⟨b,hb⟩:∃ b,Wi.uintS l a.2 1048576=b:=⟨_,rfl⟩
 simp only [hb] at hbm ⊢
 by_cases hbf:b.2.fe=0
 rotate_left 1
 ·have e1:Wi.uintS l b.2 1048576=(0,b.2):=ai hbf
  have e2:Wi.uintS l b.2 b.1=(0,b.2):=ai hbf
  rw [e1,e2,qz (aj (.inr hbf))]
  simp [hbf]
 rcases lz (l:=l) hbm hbf with ⟨h1,h2⟩ | ⟨h1,h2⟩
 ·rw [qz (aj (.inr h2)),if_pos h1]
  rfl
 rw [if_neg h1,h2]
 have hkb:(Wi.uintS l b.2 1048576).1≤b.1:=by omega
 obtain ⟨k,hk⟩:∃ k,Wi.uintS l b.2 1048576=k:=⟨_,rfl⟩
 simp only [hk] at hkb ⊢
 clear h2 h1
 unfold gapS
 simp only
 have hv0:mkV 1 a.1 0 j7=⟨1,a.1,0,j7,jC⟩:=jh jC
 have hT:∀ top,ownT (mkV 1 a.1 0 j7) b.1 top=dirT a.1 b.1 top:=fun top=>by rw [hv0];rfl
 have hfin:∀ (sd:List Sd) (t:Wi.St) (top:List Nat),kh H 0 j7 sd=some top→(finP l (({ cm0 with steps:=L,value:=mkV 1 a.1 0 j7,count:=b.1,sides:=sd }:Cm),⟨t,false⟩)).bind (kG H names)=if (Wi.endS l t).fe≠0 then none else some (yI H (names.zip L).reverse (dirT a.1 b.1 top)):=fun sd t top hs=>by
  rw [zM]
  split
  ·rfl
  ·simp only [Option.bind_some,kG,cm0,hs,Option.map_some,hT]
 have hnone:∀ (sd:List Sd) (t:Wi.St),kh H 0 j7 sd=none→(finP l (({ cm0 with steps:=L,value:=mkV 1 a.1 0 j7,count:=b.1,sides:=sd }:Cm),⟨t,false⟩)).bind (kG H names)=none:=fun sd t hs=>by
  rw [zM]
  split
  ·rfl
  ·simp only [Option.bind_some,kG,cm0,hs,Option.map_none]
 by_cases hk0:0<k.1
 ·rw [if_pos hk0,if_pos hk0]
  have hs1:=eS (l:=l) (name:=name) (ahead:=true) (s:=k.2) (show k.1-1<b.1 by omega)
  cases hr1:aM l name true b.1 (k.1-1) k.2 with
  | none=>
   rw [hr1] at hs1
   simp only [if_true,Option.map_none,Option.bind_none] at hs1 ⊢
   rw [qz]
   ·rfl
   ·split
    ·exact qB (zc hs1)
    ·exact hs1
  | some x=>
   rw [hr1] at hs1
   simp only [if_true] at hs1
   rw [hs1.1]
   simp only [hs1.2,qd,Bool.not_true,Bool.or_self,Option.map_some,Option.bind_some]
   by_cases hk1:k.1<b.1
   ·rw [if_pos hk1,if_pos hk1]
    have hs2:=eS (l:=l) (name:=name) (ahead:=false) (s:=x.2) hk1
    cases hr2:aM l name false b.1 k.1 x.2 with
    | none=>
     rw [hr2] at hs2
     simp only [Bool.false_eq_true,if_false] at hs2
     rw [qz hs2]
     rfl
    | some y=>
     rw [hr2] at hs2
     simp only [Bool.false_eq_true,if_false] at hs2
     rw [hs2.1]
     simp only [hs2.2,Bool.not_true,Bool.or_self,Option.bind_some]
     by_cases ht:0<1∧topH H y.1.name y.1.hash y.1.sp≠topH H x.1.name x.1.hash x.1.sp
     ·rw [if_pos ht]
      refine hnone _ _ ?_
      simp [cm0,kh,ht.2]
     ·rw [if_neg ht]
      simp only [Option.map_some,Option.bind_some]
      refine hfin _ _ _ ?_
      have:topH H y.1.name y.1.hash y.1.sp=topH H x.1.name x.1.hash x.1.sp:=by
       by_cases q:topH H y.1.name y.1.hash y.1.sp=topH H x.1.name x.1.hash x.1.sp
       ·exact q
       ·exact absurd ⟨by omega,q⟩ ht
      simp [cm0,kh,this]
   ·rw [if_neg hk1,if_neg hk1]
    simp only [Option.map_some,Option.bind_some]
    exact hfin _ _ _ (by simp [cm0,kh])
 ·rw [if_neg hk0,if_neg hk0]
  simp only [Option.bind_some]
  by_cases hk1:k.1<b.1
  ·rw [if_pos hk1,if_pos hk1]
   have hs2:=eS (l:=l) (name:=name) (ahead:=false) (s:=k.2) hk1
   cases hr2:aM l name false b.1 k.1 k.2 with
   | none=>
    rw [hr2] at hs2
    simp only [Bool.false_eq_true,if_false] at hs2
    rw [qz hs2]
    rfl
   | some y=>
    rw [hr2] at hs2
    simp only [Bool.false_eq_true,if_false] at hs2
    rw [hs2.1]
    simp only [hs2.2,qd,Bool.not_true,Bool.or_self,Option.bind_some]
    rw [if_neg (by omega)]
    simp only [Option.map_some,Option.bind_some]
    exact hfin _ _ _ (by simp [cm0,kh])
  ·rw [if_neg hk1,if_neg hk1]
   simp only [Option.map_some,Option.bind_some]
   exact hfin _ _ _ (by simp [cm0,kh])
theorem pP (H:List Nat→List Nat) (l:List Int) (names:List ByteArray) (v:Vd) (hv:valB v=true):a2I H l names v=refT H l names v:=by
 unfold a2I refT bZ yg
 show (finP l _).bind _=_
 simp only [p0]
 have hs:=gA l names.length (Wi.byteS l ⟨0,0,0⟩).1 (Wi.byteS l ⟨0,0,0⟩).2 dP
 cases hr:yJ l names.length (Wi.byteS l ⟨0,0,0⟩).1 (Wi.byteS l ⟨0,0,0⟩).2 with
 | none=>
  rw [hr] at hs
  rw [qz (dQ hs)]
  rfl
 | some x=>
  rw [hr] at hs
  obtain ⟨hs,hl⟩:=hs
  rw [hs]
  simp only [Option.bind_some]
  obtain ⟨L,kind,s⟩:=x
  simp only at hl ⊢
  unfold endP xL
  simp only
  by_cases h2:kind=2∧L.length=names.length∧v.kind≠0
  ·rw [if_pos h2,if_pos h2]
   exact pN H l names v L s hv h2.2.2
  rw [if_neg h2,if_neg h2]
  by_cases h3:kind=3∧L.length≠names.length∧v.kind=0
  ·rw [if_pos h3,if_neg (by omega),if_pos ⟨h3.1,by omega,h3.2.2⟩]
   exact a2J H l names _ L s
  rw [if_neg h3]
  by_cases h4:kind=4∧L.length≠names.length∧v.kind=0
  ·rw [if_pos h4,if_pos ⟨h4.1,by omega,h4.2.2⟩]
   exact pO H l names L s
  rw [if_neg h4,if_neg (fun q=>h4 ⟨q.1,by omega,q.2.2⟩),if_neg (fun q=>h3 ⟨q.1,by omega,q.2.2⟩),qz (.inl rfl)]
  rfl
end Go.Proofs.YtdeanahpiigonaaGreatDoor
