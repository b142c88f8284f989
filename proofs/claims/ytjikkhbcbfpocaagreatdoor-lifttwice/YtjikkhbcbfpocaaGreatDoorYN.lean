import Derived.Test.YtjikkhbcbfpocaaGreatDoorYC
import Derived.Test.YtjikkhbcbfpocaaGreatDoorYK
namespace Go.Proofs.YtjikkhbcbfpocaaGreatDoor
open Go.RowKit Go.Shelf
attribute [local go_sem] Oper.semAt_some
def Sl (w:World) (u:Value) (l:List Nat):Prop:=∃ (a:Addr) (len cap:Nat),u=.slice (some a) len cap∧Su.Has w u l
theorem Sl.below {w w':World} {u:Value} {l:List Nat} (h:Sl w u l) (hg:G w w'):Sl w' u l:=by
 obtain ⟨a,len,cap,h1,h2⟩:=h
 exact ⟨a,len,cap,h1,h2.below hg⟩
end Go.Proofs.YtjikkhbcbfpocaaGreatDoor
namespace Go.Proofs.YtjikkhbcbfpocaaGreatDoor
open Go.RowKit Go.Shelf
theorem wrAr {n:Nat} (h1:1≤n) (h3:n≤3) {v:Vd} {m:Md} {ks:F} (hk:v.kind=1) (hc:qL v m ks=0) (hB:Su.Bytes v.sum) (hb:bytF ks) (hw:ks.weight≤20000):Ar n (wrV n v) m (wrF n ks):=by
 refine ⟨h1,h3,?_,?_,⟨fun q=>?_,wo _ _⟩,?_,?_,?_⟩
 ·unfold wrV;split
  ·rw [sg];exact hk
  ·exact hk
 ·unfold wrV wrF;split
  ·exact xe hc
  ·exact hc
 ·unfold wrV unkV
  rw [if_pos q,if_neg (by rw [hk];decide)]
 ·unfold wrV;split
  ·rw [ov];exact hB
  ·exact hB
 ·unfold wrF;split
  ·exact fi ov hb
  ·exact hb
 ·unfold wrF;split
  ·rw [F.mp_weight];exact hw
  ·exact hw
theorem wrFz (ver:Int) (f:F):(wrF ver f).size=f.size:=by
 unfold wrF;split
 ·exact F.mp_size ..
 ·rfl
theorem wU (n:Nat) (v:Vd) (m:Md) (ks:F):arcW n v m ks≠[]:=fun q=>by
 unfold arcW at q
 rw [List.append_eq_nil_iff] at q
 have h4:=congrArg List.length q.2
 rw [show (le4 (Su.Crc.crc (arcB n v m ks))).length=4 from rfl] at h4
 cases h4
theorem Sl.of {w:World} {u:Value} {l:List Nat} (h:Su.Has w u l) (hl:l≠[]):Sl w u l:=by
 have h0:=h
 rcases h with ⟨_,q⟩ | ⟨a,cap,q,_,_⟩
 ·exact absurd q hl
 ·exact ⟨a,_,cap,q,h0⟩
theorem Sl.has {w:World} {u:Value} {l:List Nat} (h:Sl w u l):Su.Has w u l:=by obtain ⟨_,_,_,_,h⟩:=h;exact h
structure Wd (w:World):Prop where
 t:Su.Tabs w
 h:Su.Half w
 e:ErrT w
 z:1<w.heap.size
theorem Wd.up {w w':World} (h:Wd w) (hg:G w w'):Wd w':=⟨h.t.up hg,h.h.below hg (by have:=h.z;omega),h.e.up hg,by have:=hg.size;have:=h.z;omega⟩
theorem Ar.arc {ver:Nat} {v:Vd} {m:Md} {ks:F} (h:Ar ver v m ks) {most:Int} {u:Value} {W:World} (hW:Wd W) (hb:1+ks.size≤bnd most) (hu:Sl W u (arcW ver v m ks)):
  Calls Tryz.prog 13 #[u,.int .i64 most] W fun e w'=>∃ p,e=.returned (.tuple #[.pointer (some ⟨p,0,none⟩),.int .i64 ver,.nilIface])∧AtTF w' p v (mz ver m) (ks.mp id (mz ver))∧G W w':=
 (eT u W h hb hu.has hW.t hW.h hW.e hW.z).mono fun _ _ ⟨p,k,q1,q2,q3,q4⟩=>⟨p,q1,⟨k,q3,q4⟩,q2⟩
end Go.Proofs.YtjikkhbcbfpocaaGreatDoor
