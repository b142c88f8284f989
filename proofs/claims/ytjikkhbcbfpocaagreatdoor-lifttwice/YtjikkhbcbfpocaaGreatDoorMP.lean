import Derived.Test.YtjikkhbcbfpocaaGreatDoorSLong
import Derived.Test.YtjikkhbcbfpocaaGreatDoorSEq
import Derived.Test.YtjikkhbcbfpocaaGreatDoorSCrcWalk
import Derived.Test.YtjikkhbcbfpocaaGreatDoorTA
set_option maxRecDepth 100000
namespace Go.Proofs.YtjikkhbcbfpocaaGreatDoor
open Go.RowKit
def up (l:List Nat):List Int:=l.map Int.ofNat
theorem kK (l:List Nat):(up l).length=l.length:=by simp [up]
theorem a07:up []=[]:=rfl
theorem qb (a b:List Nat):up (a++b)=up a++up b:=by simp [up]
theorem pN {a b:List Nat} (h:up a=up b):a=b:=by
 exact List.map_inj_right (f:=Int.ofNat) (fun x y e=>Int.ofNat.inj e) |>.1 h
theorem a08 (l:List Nat) (i:Nat):(up l).getD i 0=((l.getD i 0:Nat):Int):=by
 simp only [up,List.getD_eq_getElem?_getD,List.getElem?_map]
 cases l[i]?<;>rfl
theorem pO (l:List Nat) (k:Nat):up (l.drop k)=(up l).drop k:=by simp [up]
theorem pP (l:List Nat) (k:Nat):up (l.take k)=(up l).take k:=by simp [up]
theorem de (ls:List (List Nat)):up ls.flatten=(ls.map up).flatten:=by
 induction ls with
 | nil=>rfl
 | cons a t ih=>rw [List.flatten_cons,qb,ih,List.map_cons,List.flatten_cons]
theorem cE {w:World} {v:Value} {l:List Nat}:Wi.Has w v (up l)↔Su.Has w v l:=by
 unfold Wi.Has Su.Has
 rw [kK]
 constructor
 ·rintro (⟨h1,h2⟩ | ⟨a,cap,h1,h2,h3⟩)
  ·exact .inl ⟨h1,by rw [← a07] at h2;exact pN h2⟩
  ·exact .inr ⟨a,cap,h1,h2,fun i hi=>by rw [h3 i hi,a08];rfl⟩
 ·rintro (⟨h1,rfl⟩ | ⟨a,cap,h1,h2,h3⟩)
  ·exact .inl ⟨h1,rfl⟩
  ·exact .inr ⟨a,cap,h1,h2,fun i hi=>by rw [h3 i hi,a08];rfl⟩
theorem eZ {w:World} {lo:Nat} {v:Value} {l:List Nat}:Wi.Owns w lo v (up l)↔Su.Owns w lo v l:=by
 unfold Wi.Owns Su.Owns up
 rw [List.length_map,List.map_map]
 rfl
def encN (n:Nat):List Nat:=(Wire.enc n).map Int.toNat
theorem xP (n:Nat):up (encN n)=Wire.enc n:=by
 unfold up encN
 rw [List.map_map]
 have h:=Wire.gy n
 revert h
 generalize Wire.enc n=l
 intro h
 induction l with
 | nil=>rfl
 | cons a t ih=>
  have h1:=(h a (by simp)).1
  rw [List.map_cons,ih fun x hx=>h x (by simp [hx])]
  simp only [Function.comp]
  rw [show Int.ofNat a.toNat=a from Int.toNat_of_nonneg h1]
theorem qI (n:Nat):Su.Bytes (encN n):=fun x hx=>by
 obtain ⟨y,hy,rfl⟩:=List.mem_map.1 hx
 have:=Wire.gy n y hy
 omega
theorem yY (n:Nat):(encN n).length=(Wire.enc n).length:=by simp [encN]
theorem jT {n:Nat} (h:n<18446744073709551616):(encN n).length≤10:=by rw [yY];exact Wire.aP h
def strN (s:ByteArray):List Nat:=s.data.toList.map fun c=>c.toNat
theorem vP (s:ByteArray):up (strN s)=Wi.strB s:=by unfold up strN Wi.strB;rw [List.map_map];rfl
theorem dg (s:ByteArray):Su.Bytes (strN s):=fun x hx=>by
 obtain ⟨y,_,rfl⟩:=List.mem_map.1 hx
 exact y.toNat_lt
theorem xq (s:ByteArray):(strN s).length=s.size:=by simp [strN]
theorem fy (vb:Value) (b:List Nat) (n:Nat) (w:World) (hb:Su.Has w vb b) (hn:n<18446744073709551616) (hlen:b.length≤1000000):
  Calls Tryz.prog 84 #[vb,.int .u64 n] w fun e w'=>∃ v,e=.returned v∧Su.Owns w' w.heap.size v (b++encN n)∧G w w':=by
 refine (Wi.lS vb (up b) n w (cE.2 hb) hn (by rw [kK];exact hlen)).mono ?_
 rintro e w' ⟨v,rfl,h1,h2⟩
 rw [← xP,← qb] at h1
 exact ⟨v,rfl,eZ.1 h1,h2⟩
theorem gA (vb:Value) (b:List Nat) (s:ByteArray) (w:World) (hb:Su.Has w vb b) (hs:s.size≤100000) (hlen:b.length≤800000):
  Calls Tryz.prog 127 #[vb,.string s] w fun e w'=>∃ v,e=.returned v∧Su.Owns w' w.heap.size v (b++(encN s.size++strN s))∧G w w':=by
 refine (Wi.lT vb (up b) s w (cE.2 hb) hs (by rw [kK];exact hlen)).mono ?_
 rintro e w' ⟨v,rfl,h1,h2⟩
 rw [← xP,← vP,← qb,← qb] at h1
 exact ⟨v,rfl,eZ.1 h1,h2⟩
theorem vQ (vb:Value) (b:List Nat) (w:World) (hb:Su.Has w vb b) (hlen:b.length≤16777216):
  Calls Tryz.prog 90 #[vb] w fun e w'=>∃ v,e=.returned v∧Su.Owns w' w.heap.size v b∧G w w':=by
 refine (Wi.dF vb (up b) w (cE.2 hb) (by rw [kK];exact hlen)).mono ?_
 rintro e w' ⟨v,rfl,h1,h2⟩
 exact ⟨v,rfl,eZ.1 h1,h2⟩
theorem tB (K cap:Nat) (vs:List Value) (ls:List (List Nat)) (w:World) (hl:ls.length=vs.length) (hn:vs.length≤1000)
  (hcell:∀ i,i<vs.length→w.cell? ⟨K,i,none⟩=some (vs.getD i undef)) (hhas:∀ i,i<vs.length→Su.Has w (vs.getD i undef) (ls.getD i [])) (hlen:ls.flatten.length≤16777216):
  Calls Tryz.prog 125 #[.slice (some ⟨K,0,none⟩) vs.length cap] w fun e w'=>∃ v,e=.returned v∧Su.Owns w' w.heap.size v ls.flatten∧G w w':=by
 refine (Wi.ar K cap vs (ls.map up) w (by simpa using hl) hn hcell (fun i hi=>?_) (by rw [← de,kK];exact hlen)).mono ?_
 ·have:=cE.2 (hhas i hi)
  have e:(ls.map up).getD i []=up (ls.getD i []):=by
   simp only [List.getD_eq_getElem?_getD,List.getElem?_map]
   cases ls[i]?<;>rfl
  rw [e];exact this
 rintro e w' ⟨v,rfl,h1,h2⟩
 rw [← de] at h1
 exact ⟨v,rfl,eZ.1 h1,h2⟩
abbrev shaL (l:List Nat):List Nat:=Su.Sha.sha l
theorem pQ (v:Value) (b:List Nat) (w:World) (K:Nat) (hK:w.cell? ⟨K,0,none⟩=some v) (hb:Su.Has w v b) (hB:Su.Bytes b) (hT:Su.Tabs w) (hl:b.length<1152921504606846976):
  Calls Tryz.prog 83 #[.slice (some ⟨K,0,none⟩) 1 1] w fun e w'=>e=.returned (.agg ((shaL b).map Su.vb).toArray)∧G w w':=by
 have:=Su.wE (.slice (some ⟨K,0,none⟩) 1 1) [b] w ?_ (by simpa using hB) hT (by simpa using hl) (by simp)
 ·simp only [List.flatten_cons,List.flatten_nil,List.append_nil] at this
  exact this
 ·exact .inr ⟨⟨K,0,none⟩,1,rfl,Nat.le_refl _,fun i hi=>by
   have:i=0:=by simp at hi;omega
   subst this
   exact ⟨v,hK,by simpa using hb⟩⟩
theorem xr {o:Oper} {a:Act} (s x:Operand) (ho:o.op=.call { callee:=.builtin .append,args:=#[s,x],argTypes:=#[35,35] }) (lo:Nat) (v vx:Value) (m l:List Nat) (w:World) (hs:a.eval s=v) (hx:a.eval x=vx) (hown:Su.Owns w lo v m) (hhas:Su.Has w vx l)
  (hlen:m.length+l.length≤16777216) (hb:lo≤w.heap.size):∃ v' w',(execOp a.eval o).run Tryz.prog w=.ok (.value v') w'∧Su.Owns w' lo v' (m++l)∧w.grownBy w' v.ownBlock∧(v'.ownBlock=v.ownBlock∨v'.ownBlock=some w.heap.size):=by
 obtain ⟨i0,hi,hz0,hz1,hz2⟩:=info_parts Su.Tryz.info5
 rcases hhas with ⟨rfl,rfl⟩ | ⟨ad,cap,rfl,hc,hcell⟩
 ·have hr:=run_append_owned_none (P:=Tryz.prog) (w:=w) lo 35 o.type 5 i0 1 Tryz.underlying35 hi v m.length (m.map Su.vb) hown
  refine ⟨v,w,?_,by simpa using hown,⟨rfl,rfl,rfl,Nat.le_refl _,fun _ _ _=>rfl⟩,.inl rfl⟩
  unfold execOp
  simp only [ho,resolve,invoke,builtin,Sem.run_bind,Sem.run_pure,Result.andThen_ok,List.map_toArray,List.map_cons,List.map_nil,hs,hx,hr]
 ·obtain ⟨v',w',hr,h2,h3,_,h5⟩:=run_append_own_at (P:=Tryz.prog) w lo 35 o.type 5 i0 (.int .u8 0) 1 1 Tryz.underlying35 hi hz0 hz1 hz2 rfl (by decide) v m.length (m.map Su.vb) hown ad l.length cap (l.map Su.vb) (by simp)
   (fun j u hj=>by
    have hjl:j<l.length:=by have:=(List.getElem?_eq_some_iff.1 hj).1;simpa using this
    rw [hcell j hjl]
    rw [List.getElem?_map,gl hjl] at hj
    rw [List.getD_eq_getElem?_getD,gl hjl]
    exact hj)
   (fun u hu=>by obtain ⟨x,_,rfl⟩:=List.mem_map.1 hu;rfl) (by unfold maxLen;omega) (by omega) hb
  refine ⟨v',w',?_,?_,h3,h5⟩
  ·unfold execOp
   simp only [ho,resolve,invoke,builtin,Sem.run_bind,Sem.run_pure,Result.andThen_ok,List.map_toArray,List.map_cons,List.map_nil,hs,hx,hr]
  ·unfold Su.Owns
   rw [lA,List.map_append]
   exact h2
theorem zA (g o:Nat) (wz:World):(Instr.sliceAt 22 (.pointer (some ⟨g,o,none⟩)) none none none).run Tryz.prog wz=.ok (.slice (some ⟨g,o,none⟩) 32 32) wz:=by
 rw [run_sliceAt_array_all wz 22 ⟨g,o,none⟩ Tryz.underlying22]
 have h1:(Tryz.prog.info? (Tryz.prog.elem 22)).map (·.size)=some 1:=by kernel_rfl
 cases hq:Tryz.prog.info? (Tryz.prog.elem 22) with
 | none=>simp [hq] at h1
 | some i=>
  have hs:i.size=1:=by simpa [hq] using h1
  rw [show Tryz.prog.arrayLen 22=32 by kernel_rfl]
  simp [sizeOf,typeInfo,hq,hs,slicedAt,Addr.add,Result.andThen]
theorem ly {w:World} {g o:Nat} {p:List Nat} (hl:∀ j u,(p.map Su.vb)[j]?=some u→w.cell? ⟨g,o+j,none⟩=some u):Su.Has w (.slice (some ⟨g,o,none⟩) p.length p.length) p:=by
 refine .inr ⟨_,_,rfl,Nat.le_refl _,fun i hi=>?_⟩
 rw [Su.kj]
 refine hl i _ ?_
 rw [List.getElem?_map,gl hi,List.getD_eq_getElem?_getD,gl hi]
 rfl
def jl:List Nat:=List.replicate 32 0
def xT (n:Nat):Nat:=2 ^ Nat.log2 (n-1)
def ownT (v:Vd) (count:Nat) (top:List Nat):List Nat:=
 if v.kind=2 then 70::(encN v.mode.toNat++(encN v.size.toNat++v.sum)) else if v.kind=3 then 76::(encN v.size.toNat++v.sum) else 68::(encN v.mode.toNat++(encN count++top))
def zK (nm:ByteArray) (h:List Nat):List Nat:=78::(encN nm.size++(strN nm++h))
def yM (a b:List Nat):List Nat:=73::(a++b)
theorem ae {n:Nat} (h:2≤n):1≤xT n∧xT n<n:=by
 unfold xT
 have h1:n-1≠0:=by omega
 have:=(Nat.le_log2 (k:=Nat.log2 (n-1)) h1).1 (Nat.le_refl _)
 exact ⟨Nat.one_le_two_pow,by omega⟩
def topT:List (ByteArray × List Nat)→List Nat × List (List Nat)
 | []=>(jl,[])
 | [x]=>(shaL (zK x.1 x.2),[zK x.1 x.2])
 | x::y::t=>
  let l:=x::y::t
  let a:=topT (l.take (xT l.length))
  let b:=topT (l.drop (xT l.length))
  (shaL (yM a.1 b.1),a.2++(b.2++[yM a.1 b.1]))
termination_by l=>l.length
decreasing_by
 all_goals
  have:=ae (n:=(x::y::t).length) (by simp)
  simp only [List.length_take,List.length_drop] at *
  omega
def kr:F→List (ByteArray × List Nat) × List (List Nat)
 | .nil=>([],[])
 | .cons nm v _ ks r=>
  let k:=kr ks
  let tp:=topT k.1
  let tx:=ownT v k.1.length tp.1
  let rr:=kr r
  if v.kind=1 then ((nm,shaL tx)::rr.1,k.2++(tp.2++(tx::rr.2))) else ((nm,shaL (ownT v 0 jl))::rr.1,ownT v 0 jl::rr.2)
def jt (v:Vd) (ks:F):List Nat × List (List Nat):=
 if v.kind=1 then (shaL (ownT v (kr ks).1.length (topT (kr ks).1).1),(kr ks).2++((topT (kr ks).1).2++[ownT v (kr ks).1.length (topT (kr ks).1).1])) else (shaL (ownT v 0 jl),[ownT v 0 jl])
theorem yF (nm:ByteArray) (v:Vd) (m:Md) (ks r:F):kr (.cons nm v m ks r)=((nm,(jt v ks).1)::(kr r).1,(jt v ks).2++(kr r).2):=by
 rw [kr,jt]
 split
 ·simp
 ·simp
theorem cQ:∀ f:F,(kr f).1.length=f.len
 | .nil=>rfl
 | .cons nm v m ks r=>by rw [yF];simp [F.len,cQ r]
theorem qg (l:List Nat):(shaL l).length=32:=Su.qg l
theorem yN (v:Vd) (ks:F):(jt v ks).1.length=32:=by
 unfold jt
 split<;>exact qg _
theorem aC (l:List (ByteArray × List Nat)):(topT l).1.length=32:=by
 match l with
 | []=>rw [topT];rfl
 | [x]=>rw [topT];exact qg _
 | x::y::t=>rw [topT];exact qg _
end Go.Proofs.YtjikkhbcbfpocaaGreatDoor
