/-
  slices.SortFunc over texts, by the library of contracts.
-/
import Derived.Shelf.SlSortCmp.NoneTotal
import Derived.Test.YtnhnggnldhmepaaGreatDoorSortP
import Derived.Test.YtnhnggnldhmepaaGreatDoorOrder
namespace Go.Proofs.YtnhnggnldhmepaaGreatDoor
open Go.Shelf
def Tryz.sortL_ren : Go.Shelf.Ren := ⟨fun | 6 => 44 | 15 => 84 | 14 => 83 | 28 => 134 | 29 => 135 | 20 => 126 | 21 => 127 | 22 => 128 | 23 => 129 | 24 => 130 | 25 => 131 | 26 => 132 | 27 => 133 | 46 => 139 | 47 => 140 | 48 => 141 | 49 => 142 | 50 => 143 | 57 => 149 | n => n, fun | 22 => 42 | 24 => 9 | 25 => 71 | 3 => 3 | 39 => 107 | 0 => 0 | 53 => 159 | 55 => 161 | 4 => 4 | 46 => 152 | 45 => 151 | 50 => 156 | 5 => 5 | 9 => 9 | 66 => 162 | 70 => 166 | 76 => 168 | 77 => 169 | n => n, fun | n => n⟩
theorem Tryz.sortL : Go.Proofs.SlLaysF.n6 Tryz.prog Tryz.sortL_ren := {
  mixed := by kernel_rfl
  f6 := ⟨Tryz.f44.name, by decide, Tryz.func44.trans (congrArg some (by kernel_rfl))⟩
  f14 := ⟨Tryz.f83.name, by decide, Tryz.func83.trans (congrArg some (by kernel_rfl))⟩
  f15 := Tryz.func84.trans (congrArg some (by kernel_rfl))
  f20 := ⟨Tryz.f126.name, by decide, Tryz.func126.trans (congrArg some (by kernel_rfl))⟩
  f21 := ⟨Tryz.f127.name, by decide, Tryz.func127.trans (congrArg some (by kernel_rfl))⟩
  f22 := ⟨Tryz.f128.name, by decide, Tryz.func128.trans (congrArg some (by kernel_rfl))⟩
  f23 := ⟨Tryz.f129.name, by decide, Tryz.func129.trans (congrArg some (by kernel_rfl))⟩
  f24 := ⟨Tryz.f130.name, by decide, Tryz.func130.trans (congrArg some (by kernel_rfl))⟩
  f25 := ⟨Tryz.f131.name, by decide, Tryz.func131.trans (congrArg some (by kernel_rfl))⟩
  f26 := ⟨Tryz.f132.name, by decide, Tryz.func132.trans (congrArg some (by kernel_rfl))⟩
  f27 := ⟨Tryz.f133.name, by decide, Tryz.func133.trans (congrArg some (by kernel_rfl))⟩
  f28 := Tryz.func134.trans (congrArg some (by kernel_rfl))
  f29 := Tryz.func135.trans (congrArg some (by kernel_rfl))
  f46 := ⟨Tryz.f139.name, by decide, Tryz.func139.trans (congrArg some (by kernel_rfl))⟩
  f47 := Tryz.func140.trans (congrArg some (by kernel_rfl))
  f48 := Tryz.func141.trans (congrArg some (by kernel_rfl))
  f49 := ⟨Tryz.f142.name, by decide, Tryz.func142.trans (congrArg some (by kernel_rfl))⟩
  f50 := ⟨Tryz.f143.name, by decide, Tryz.func143.trans (congrArg some (by kernel_rfl))⟩
  f57 := ⟨Tryz.f149.name, by decide, Tryz.func149.trans (congrArg some (by kernel_rfl))⟩
  t0 := Tryz.underlying0
  a0 := Tryz.isAgg0
  z0 := Tryz.sizeOf0
  v0 := Tryz.zeroValue0
  t3 := Tryz.underlying3
  a3 := Tryz.isAgg3
  z3 := Tryz.sizeOf3
  v3 := Tryz.zeroValue3
  t4 := Tryz.underlying4
  a4 := Tryz.isAgg4
  z4 := Tryz.sizeOf4
  v4 := Tryz.zeroValue4
  t5 := Tryz.underlying5
  a5 := Tryz.isAgg5
  z5 := Tryz.sizeOf5
  v5 := Tryz.zeroValue5
  t9 := Tryz.underlying9
  a9 := Tryz.isAgg9
  z9 := Tryz.sizeOf9
  v9 := Tryz.zeroValue9
  t22 := Tryz.underlying42
  a22 := Tryz.isAgg42
  z22 := Tryz.sizeOf42
  v22 := Tryz.zeroValue42
  a24 := Tryz.isAgg9
  z24 := Tryz.sizeOf9
  t25 := Tryz.underlying71
  a25 := Tryz.isAgg71
  z25 := Tryz.sizeOf71
  v25 := Tryz.zeroValue71
  t39 := Tryz.underlying107
  a39 := Tryz.isAgg107
  z39 := Tryz.sizeOf107
  v39 := Tryz.zeroValue107
  t45 := Tryz.underlying151
  a45 := Tryz.isAgg151
  z45 := Tryz.sizeOf151
  v45 := Tryz.zeroValue151
  t46 := Tryz.underlying152
  a46 := Tryz.isAgg152
  z46 := Tryz.sizeOf152
  v46 := Tryz.zeroValue152
  t50 := Tryz.underlying156
  a50 := Tryz.isAgg156
  z50 := Tryz.sizeOf156
  v50 := Tryz.zeroValue156
  t53 := Tryz.underlying159
  a53 := Tryz.isAgg159
  z53 := Tryz.sizeOf159
  v53 := Tryz.zeroValue159
  t55 := Tryz.underlying161
  a55 := Tryz.isAgg161
  z55 := Tryz.sizeOf161
  v55 := Tryz.zeroValue161
  t66 := Tryz.underlying162
  a66 := Tryz.isAgg162
  z66 := Tryz.sizeOf162
  v66 := Tryz.zeroValue162
  t70 := Tryz.underlying166
  a70 := Tryz.isAgg166
  z70 := Tryz.sizeOf166
  v70 := Tryz.zeroValue166
  t76 := Tryz.underlying168
  a76 := Tryz.isAgg168
  z76 := Tryz.sizeOf168
  v76 := Tryz.zeroValue168
  t77 := Tryz.underlying169
  a77 := Tryz.isAgg169
  z77 := Tryz.sizeOf169
  v77 := Tryz.zeroValue169 }

open Go.RowKit Go.Sort Go.Lib

/-- A text that isn't too long (none: the empty one). -/
abbrev Tx := Option { s : ByteArray // s.size ≤ 1048576 ∧ 0 < s.size }
def tv (x : Tx) : ByteArray := match x with
  | none => ByteArray.empty
  | some y => y.1
theorem tv_le (x : Tx) : (tv x).size ≤ 1048576 := by
  cases x with
  | none => exact Nat.zero_le _
  | some y => exact y.2.1
theorem tv_inj {x y : Tx} (h : tv x = tv y) : x = y := by
  cases x with
  | none =>
    cases y with
    | none => rfl
    | some y =>
      exfalso
      have e : ByteArray.empty = y.1 := h
      have := y.2.2
      rw [← e] at this
      exact Nat.lt_irrefl _ this
  | some x =>
    cases y with
    | none =>
      exfalso
      have e : x.1 = ByteArray.empty := h
      have := x.2.2
      rw [e] at this
      exact Nat.lt_irrefl _ this
    | some y => exact congrArg some (Subtype.ext h)
theorem tv_of (s : ByteArray) (h : s.size ≤ 1048576) : ∃ x : Tx, tv x = s := by
  by_cases h0 : 0 < s.size
  · exact ⟨some ⟨s, h, h0⟩, rfl⟩
  · refine ⟨none, ?_⟩
    refine ext_of _ _ ?_
    have e : (tl s).length = 0 := by rw [tl_len]; omega
    have e2 : (tl (tv none)).length = 0 := by rw [tl_len]; rfl
    rw [List.length_eq_zero_iff.1 e, List.length_eq_zero_iff.1 e2]
theorem tvs_of : ∀ (l : List ByteArray), (∀ s ∈ l, s.size ≤ 1048576) → ∃ L : List Tx, L.map tv = l
  | [], _ => ⟨[], rfl⟩
  | s :: l, h => by
    obtain ⟨x, hx⟩ := tv_of s (h s (by simp))
    obtain ⟨L, hL⟩ := tvs_of l fun y hy => h y (by simp [hy])
    exact ⟨x :: L, by rw [List.map_cons, hx, hL]⟩
def encT (x : Tx) : Value := .string (tv x)
def cfT (x y : Tx) : Int := cmpT (tv x) (tv y)

theorem ltT (x y : Tx) : ltOf cfT x y = decide (cmpT (tv x) (tv y) < 0) := rfl

theorem swoT : SWO (ltOf cfT) where
  irrefl x := by
    rw [ltT]
    have : cmpT (tv x) (tv x) = 0 := cmpL_self _
    simp [this]
  trans x y z h1 h2 := by
    rw [ltT] at *
    simp only [decide_eq_true_eq] at *
    have h3 : cmpT (tv x) (tv z) ≤ 0 := cmpT_trans (by omega) (show cmpT (tv y) (tv z) ≤ 0 by omega)
    rcases Int.lt_or_eq_of_le h3 with h | h
    · exact h
    · exfalso
      have e : (tv x) = (tv z) := cmpT_eq h3 (by rw [cmpT_neg (tv x) (tv z)]; omega)
      rw [← e] at h2
      have := cmpT_neg (tv x) (tv y)
      omega
  ntrans x y z h1 h2 := by
    rw [ltT] at *
    simp only [decide_eq_false_iff_not] at *
    have a1 := cmpT_neg (tv x) (tv y)
    have a2 := cmpT_neg (tv y) (tv z)
    have a3 := cmpT_neg (tv x) (tv z)
    have : cmpT (tv z) (tv x) ≤ 0 := cmpT_trans (show cmpT (tv z) (tv y) ≤ 0 by omega) (by omega)
    omega

theorem totT (x y : Tx) (h1 : ltOf cfT x y = false) (h2 : ltOf cfT y x = false) : x = y := by
  rw [ltT] at *
  simp only [decide_eq_false_iff_not] at *
  have a1 := cmpT_neg (tv x) (tv y)
  exact tv_inj (cmpT_eq (by omega) (by omega))

theorem cmpReadsT (blk off size : Nat) (w : World) : CmpReads Tryz.prog 45 #[] encT cfT blk off size w := fun _ _ _ _ x y =>
  (compare_any (tv x) (tv y) _ (by have := tv_le x; omega) (by have := tv_le y; omega)).mono fun _ _ ⟨he, hd⟩ => ⟨he, hd⟩

theorem holdsT {w : World} {g : Nat} {cur : Array Value} {e : TypeId} {ss : List Tx} (hb : w.heap[g]? = some (.cells cur e (0, 0))) (ht : cur.toList.take ss.length = ss.map encT) : Holds encT w g 0 ss.toArray := by
  intro j hj
  have hj' : j < ss.length := by simpa using hj
  refine ⟨?_, by simp [World.frozen?, hb]⟩
  have h1 : (cur.toList.take ss.length)[j]? = (ss.map encT)[j]? := by rw [ht]
  rw [List.getElem?_take_of_lt hj'] at h1
  simp only [World.cell?, hb, Nat.zero_add]
  simp only [Option.isSome_none, Bool.false_eq_true, if_false]
  rw [← Array.getElem?_toList, h1]
  simp [hj']

theorem heap_sortedT {w : World} {g n : Nat} {os : Array Obj} {cur : Array Value} {e : TypeId} {fr : Nat × Nat} (d : Array Tx) (hb : w.heap[g]? = some (.cells cur e fr)) :
    (sortWorld encT w g 0 n d os).heap[g]? = some (.cells (putCells encT 0 d cur) e fr) := by
  have hg : g < w.heap.size := (Array.getElem?_eq_some_iff.1 hb).1
  unfold sortWorld
  rw [heap_grow_old _ _ (by simpa using hg)]
  simp [putRow, mapBlock, Sort.ahead, Array.getElem?_modify, hb, onCells]

theorem grownBy_sortedT {w : World} {g n : Nat} {os : Array Obj} (d : Array Tx) : w.grownBy (sortWorld encT w g 0 n d os) (some g) := by
  unfold sortWorld
  refine ⟨rfl, rfl, rfl, by simp, fun k hk hne => ?_⟩
  rw [heap_grow_old _ _ (by simpa using hk)]
  have : g ≠ k := fun e => hne (by rw [e])
  simp [putRow, mapBlock, Sort.ahead, Array.getElem?_modify, this]

theorem take_putCellsT (cur : Array Value) (ts : List Tx) (h : ts.length ≤ cur.size) : (putCells encT 0 ts.toArray cur).toList.take ts.length = ts.map encT := by
  apply List.ext_getElem?
  intro j
  by_cases hj : j < ts.length
  · rw [List.getElem?_take_of_lt hj, Array.getElem?_toList]
    simp [putCells, hj, show j < cur.size by omega]
  · rw [List.getElem?_take_eq_none (by omega), List.getElem?_eq_none (by simp; omega)]

/-- slices.SortFunc(v, Compare). -/
theorem sortFn_any (lo : Nat) (v : Value) (l : List ByteArray) (w : World) (hv : OwnsT w lo v l) (hs : ∀ s ∈ l, s.size ≤ 1048576) (hl : l.length ≤ 1000000) :
    Calls Tryz.prog 44 #[v, .func (.func 45) #[] #[]] w fun e w' => e = .returned (.tuple #[]) ∧ ∃ l', OwnsT w' lo v l' ∧ l'.Perm l ∧ Srt l' ∧ w.grownBy w' v.ownBlock := by
  obtain ⟨L, rfl⟩ := tvs_of l hs
  obtain ⟨h0, ⟨hnil, h1⟩ | ⟨g, cap, cur, hv', hbase, hb, h1, h2, h3, h4⟩⟩ := hv
  · subst hnil
    have e : L = [] := by simpa using h1
    subst e
    have hcon := AnyF.slices_SortFunc_none { Tryz.sortL with } none 0 (.func (.func 45) #[] #[]) w
    change Calls Tryz.prog 44 _ _ _ at hcon
    refine hcon.mono ?_
    rintro e w' ⟨rfl, rfl⟩
    exact ⟨rfl, [], OwnsT.nil _ _, by simp, by simp [Srt], rfl, rfl, rfl, Nat.le_refl _, fun _ _ _ => rfl⟩
  · subst hv'
    have eg : ∀ args w, (callFunc 45 args).run Tryz.prog w = .ok (.enter 45 args) w := enters_of Tryz.func45 (by kernel_rfl) rfl
    have h4' : cur.toList.take L.length = L.map encT := by
      have := h4
      simp only [List.length_map, Nat.mul_one, List.map_map] at this
      exact this
    have hln : L.length ≤ 1000000 := by simpa using hl
    have hcon := Any.slices_SortFunc_total Tryz.sortL encT (fun _ => rfl) cfT swoT 45 #[] g 0 cap L.toArray w eg (cmpReadsT g 0 _ w).lays (holdsT hb h4') (Array.getElem?_eq_some_iff.1 hb).1 (by simp; omega) totT
    change Calls Tryz.prog 44 _ _ _ at hcon
    have hz : L.toArray.size = (L.map tv).length := by simp
    rw [hz] at hcon
    refine hcon.mono ?_
    rintro e w' ⟨rfl, n, os, rfl⟩
    obtain ⟨M, hM⟩ : ∃ M, (L.mergeSort fun x y => !(ltOf cfT) y x) = M := ⟨_, rfl⟩
    have hp : M.Perm L := by rw [← hM]; exact List.mergeSort_perm _ _
    have hso : M.Pairwise fun x y => (!(ltOf cfT) y x) = true := by
      rw [← hM]
      refine List.pairwise_mergeSort (fun a b c h1 h2 => ?_) (fun a b => ?_) L
      · simp only [Bool.not_eq_true'] at *
        exact swoT.ntrans _ _ _ h2 h1
      · by_cases e : ltOf cfT b a = true
        · have : ltOf cfT a b = false := by
            rw [ltT] at *
            simp only [decide_eq_true_eq, decide_eq_false_iff_not] at *
            have := cmpT_neg (tv a) (tv b)
            omega
          simp [this]
        · simp [e]
    have hlen := hp.length_eq
    rw [show L.toArray.toList = L from rfl, hM]
    refine ⟨rfl, M.map tv, ⟨by simp, .inr ⟨g, cap, putCells encT 0 M.toArray cur, by simp [hlen], hbase, heap_sortedT _ hb, ?_, h2, by simp [putCells]; simpa using h3, ?_⟩⟩, hp.map _, ?_, grownBy_sortedT _⟩
    · simp [hlen]; simpa using h1
    · have h5 : M.length ≤ cur.size := by
        have := h3
        have : L.length ≤ cap := by simpa using h1
        omega
      rw [List.length_map, Nat.mul_one, take_putCellsT cur M h5, List.map_map]
      rfl
    · unfold Srt
      rw [List.pairwise_map]
      refine hso.imp ?_
      intro x y h
      rw [ltT] at h
      simp only [Bool.not_eq_true', decide_eq_false_iff_not] at h
      have := cmpT_neg (tv x) (tv y)
      omega
end Go.Proofs.YtnhnggnldhmepaaGreatDoor
