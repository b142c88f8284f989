/-
  Plans in Lean alone: cells, items, what is left out, how much room it needs.
-/
namespace Go.Proofs.YtpenaeoodfgmpaaGreatDoor

/-- a cell of a merge -/
structure Cd where
  path : ByteArray
  what : Int
  side : Int
  mode : Int
  keep : Int
  take : Int
  names : Int
  bytes : Int
  hn : Int
  hb : Int
/-- an item of a plan -/
structure It where
  num : Int
  cell : Int
  path : ByteArray
  what : Int
  frm : Int
  to : Int
  mode : Int

/-- an int -/
def InR (x : Int) : Prop := -9223372036854775808 ≤ x ∧ x ≤ 9223372036854775807
/-- all numbers of a cell are ints -/
def Cd.ok (c : Cd) : Prop := InR c.what ∧ InR c.side ∧ InR c.mode ∧ InR c.keep ∧ InR c.take ∧ InR c.names ∧ InR c.bytes ∧ InR c.hn ∧ InR c.hb
/-- all counted numbers are 0 and more -/
def Cd.pos (c : Cd) : Prop := 0 ≤ c.keep ∧ 0 ≤ c.take ∧ 0 ≤ c.names ∧ 0 ≤ c.bytes ∧ 0 ≤ c.hn ∧ 0 ≤ c.hb
def mx (a b : Int) : Int := if a ≤ b then b else a
def mn (a b : Int) : Int := if a ≤ b then a else b
def up0 (a : Int) : Int := mx a 0
/-- as it is counted -/
def cnt (c : Cd) : Cd := { c with keep := up0 c.keep, take := up0 c.take, names := up0 c.names, bytes := up0 c.bytes, hn := up0 c.hn, hb := up0 c.hb }
theorem up0_nn (a : Int) : 0 ≤ up0 a := by unfold up0 mx; split <;> omega
theorem up0_in {a : Int} (h : InR a) : InR (up0 a) := by unfold up0 mx InR at *; split <;> omega
theorem up0_id {a : Int} (h : 0 ≤ a) : up0 a = a := by unfold up0 mx; split <;> omega
theorem cnt_pos (c : Cd) : (cnt c).pos := ⟨up0_nn _, up0_nn _, up0_nn _, up0_nn _, up0_nn _, up0_nn _⟩
theorem cnt_ok {c : Cd} (h : c.ok) : (cnt c).ok := by
  obtain ⟨a, b, d, e, f, g, i, j, k⟩ := h
  exact ⟨a, b, d, up0_in e, up0_in f, up0_in g, up0_in i, up0_in j, up0_in k⟩
theorem cnt_id {c : Cd} (h : c.pos) : cnt c = c := by
  obtain ⟨a, b, d, e, f, g⟩ := h
  simp only [cnt, up0_id a, up0_id b, up0_id d, up0_id e, up0_id f, up0_id g]

/-- how a number goes into the worst -/
def shr (n most : Int) : Int := mn n (most + 1)
/-- by which sort a cell grows: 0, 1; 2: it doesn't -/
def srt (c : Cd) : Nat := if c.take ≤ c.keep then 2 else if c.what = 3 then 0 else if c.what = 1 ∨ c.what = 2 ∨ c.what = 5 then 1 else 2
def fall (c : Cd) (most : Int) : Int := shr (mx c.keep c.take) most - shr c.keep most
/-- what grows by a sort, of the first k cells -/
def gat (L : List Cd) (most : Int) (s : Nat) : Nat → List (Nat × Int)
  | 0 => []
  | k + 1 => match L[k]? with
    | some c => gat L most s k ++ (if srt c = s then [(k, fall c most)] else [])
    | none => gat L most s k
/-- the worst of the first k cells -/
def wst (L : List Cd) (most : Int) : Nat → Int
  | 0 => 0
  | k + 1 => match L[k]? with
    | some c => wst L most k + shr (mx c.keep c.take) most
    | none => wst L most k
/-- leaving out, from the list's beginning -/
def lv (most : Int) : List (Nat × Int) → Int → List Bool → Int × List Bool
  | [], w, B => (w, B)
  | p :: R, w, B => if w ≤ most then (w, B) else lv most R (w - p.2) (B.set p.1 true)
def leave (L : List Cd) (most : Int) : List Bool :=
  (lv most ((gat L most 0 L.length).reverse ++ (gat L most 1 L.length).reverse) (wst L most L.length) (List.replicate L.length false)).2
theorem lv_app (most : Int) : ∀ (R S : List (Nat × Int)) (w : Int) (B : List Bool), lv most (R ++ S) w B = lv most S (lv most R w B).1 (lv most R w B).2
  | [], S, w, B => rfl
  | p :: R, S, w, B => by
    simp only [List.cons_append, lv]
    split
    · rename_i h
      cases S with
      | nil => rfl
      | cons q S => simp [lv, h]
    · exact lv_app most R S _ _
theorem lv_le {most : Int} {R : List (Nat × Int)} {w : Int} {B : List Bool} (h : w ≤ most) : lv most R w B = (w, B) := by
  cases R with
  | nil => rfl
  | cons p R => simp [lv, h]
theorem lv_len (most : Int) : ∀ (R : List (Nat × Int)) (w : Int) (B : List Bool), (lv most R w B).2.length = B.length
  | [], w, B => rfl
  | p :: R, w, B => by
    simp only [lv]
    split
    · rfl
    · rw [lv_len most R]; simp
theorem leave_len (L : List Cd) (most : Int) : (leave L most).length = L.length := by
  unfold leave
  rw [lv_len]; simp
theorem gat_step {L : List Cd} {most : Int} {s k : Nat} {c : Cd} (h : L[k]? = some c) : gat L most s (k + 1) = gat L most s k ++ (if srt c = s then [(k, fall c most)] else []) := by
  simp only [gat, h]
theorem wst_step {L : List Cd} {most : Int} {k : Nat} {c : Cd} (h : L[k]? = some c) : wst L most (k + 1) = wst L most k + shr (mx c.keep c.take) most := by
  simp only [wst, h]
theorem gat_len (L : List Cd) (most : Int) (s : Nat) : ∀ k, (gat L most s k).length ≤ k
  | 0 => by simp [gat]
  | k + 1 => by
    have := gat_len L most s k
    simp only [gat]
    split
    · rw [List.length_append]; split <;> simp <;> omega
    · omega
theorem gat_lt (L : List Cd) (most : Int) (s : Nat) : ∀ k, ∀ p ∈ gat L most s k, p.1 < k ∧ p.1 < L.length ∧ 0 ≤ p.2 ∧ p.2 ≤ most + 1 - mn 0 (most + 1) ∨ ¬ (∀ c ∈ L, c.pos) ∨ most < 0
  | 0 => by simp [gat]
  | k + 1 => by
    intro p hp
    have ih := gat_lt L most s k
    simp only [gat] at hp
    split at hp
    · rename_i c hc
      rcases List.mem_append.1 hp with h | h
      · rcases ih p h with h | h
        · exact .inl ⟨by omega, h.2⟩
        · exact .inr h
      · split at h
        · simp at h
          subst h
          by_cases hP : ∀ c ∈ L, c.pos
          · by_cases hm : most < 0
            · exact .inr (.inr hm)
            · refine .inl ⟨Nat.lt_succ_self k, (List.getElem?_eq_some_iff.1 hc).1, ?_, ?_⟩
              · have := hP c (List.mem_of_getElem? hc)
                unfold Cd.pos at this
                simp only [fall, shr, mx, mn]
                repeat' split
                all_goals omega
              · have := hP c (List.mem_of_getElem? hc)
                unfold Cd.pos at this
                simp only [fall, shr, mx, mn]
                repeat' split
                all_goals omega
          · exact .inr (.inl hP)
        · simp at h
    · rcases ih p hp with h | h
      · exact .inl ⟨by omega, h.2⟩
      · exact .inr h
theorem gat_ok {L : List Cd} {most : Int} {s k : Nat} (hP : ∀ c ∈ L, c.pos) (hm : 0 ≤ most) {p : Nat × Int} (hp : p ∈ gat L most s k) : p.1 < L.length ∧ 0 ≤ p.2 ∧ p.2 ≤ most + 1 := by
  rcases gat_lt L most s k p hp with h | h | h
  · refine ⟨h.2.1, h.2.2.1, ?_⟩
    have := h.2.2.2
    unfold mn at this
    split at this <;> omega
  · exact absurd hP h
  · omega
theorem shr_bd {n most : Int} (h : 0 ≤ n) (hm : 0 ≤ most) : 0 ≤ shr n most ∧ shr n most ≤ most + 1 := by
  unfold shr mn; split <;> omega
theorem mx_nn {a b : Int} (h : 0 ≤ a) : 0 ≤ mx a b := by unfold mx; split <;> omega
theorem wst_bd {L : List Cd} {most : Int} (hP : ∀ c ∈ L, c.pos) (hm : 0 ≤ most) : ∀ k, 0 ≤ wst L most k ∧ wst L most k ≤ k * (most + 1)
  | 0 => by simp [wst]
  | k + 1 => by
    have ih := wst_bd hP hm k
    simp only [wst]
    have e : ((k + 1 : Nat) : Int) * (most + 1) = k * (most + 1) + (most + 1) := by
      rw [Int.natCast_add, Int.add_mul]; simp
    rw [e]
    split
    · rename_i c hc
      have := hP c (List.mem_of_getElem? hc)
      have := shr_bd (n := mx c.keep c.take) (most := most) (mx_nn this.1) hm
      omega
    · omega

/-- is an item of it? -/
def don (c : Cd) : Bool := (decide (c.what = 3) || decide (c.what = 2)) && (decide (c.side = 1) || decide (c.side = 2))
def mkI (n : Nat) (k : Nat) (c : Cd) : It := ⟨(n : Int) + 1, (k : Int), c.path, c.what, if c.side = 2 then 1 else 0, if c.side = 2 then 0 else 1, if c.what = 2 then c.mode else 0⟩
def its (L : List Cd) (B : List Bool) : Nat → List It
  | 0 => []
  | k + 1 => match L[k]? with
    | some c => if B[k]? = some false ∧ don c = true then its L B k ++ [mkI (its L B k).length k c] else its L B k
    | none => its L B k
theorem its_len (L : List Cd) (B : List Bool) : ∀ k, (its L B k).length ≤ k
  | 0 => by simp [its]
  | k + 1 => by
    have := its_len L B k
    simp only [its]
    split
    · split <;> simp <;> omega
    · omega
theorem its_cell (L : List Cd) (B : List Bool) : ∀ k, ∀ t ∈ its L B k, ∃ i c, i < k ∧ L[i]? = some c ∧ t.cell = (i : Int)
  | 0 => by simp [its]
  | k + 1 => by
    intro t ht
    simp only [its] at ht
    split at ht
    · rename_i c hc
      split at ht
      · rcases List.mem_append.1 ht with h | h
        · obtain ⟨i, d, h1, h2⟩ := its_cell L B k t h
          exact ⟨i, d, by omega, h2⟩
        · simp at h
          subst h
          exact ⟨k, c, by omega, hc, rfl⟩
      · obtain ⟨i, d, h1, h2⟩ := its_cell L B k t ht
        exact ⟨i, d, by omega, h2⟩
    · obtain ⟨i, d, h1, h2⟩ := its_cell L B k t ht
      exact ⟨i, d, by omega, h2⟩
/-- the places of what is left out -/
def pls (B : List Bool) : Nat → List Int
  | 0 => []
  | k + 1 => if B[k]? = some true then pls B k ++ [(k : Int)] else pls B k
theorem pls_len (B : List Bool) : ∀ k, (pls B k).length ≤ k
  | 0 => by simp [pls]
  | k + 1 => by
    have := pls_len B k
    simp only [pls]
    split <;> simp <;> omega
/-- sums and differences that stop -/
def pl (a n : Int) : Int := mn a (9223372036854775807 - n) + n
def ms (a n : Int) : Int := mx a (-9223372036854775808 + n) - n
/-- balance and most behind one item -/
def brg (a : Int × Int) (come gone : Int) : Int × Int := (ms (pl a.1 come) gone, mx a.2 (pl a.1 come))
theorem pl_in {a n : Int} (ha : InR a) (hn : InR n) (h0 : 0 ≤ n) : InR (pl a n) := by unfold InR pl mn at *; split <;> omega
theorem ms_in {a n : Int} (ha : InR a) (hn : InR n) (h0 : 0 ≤ n) : InR (ms a n) := by unfold InR ms mx at *; split <;> omega
theorem brg_in {a : Int × Int} {come gone : Int} (h1 : InR a.1) (h2 : InR a.2) (hc : InR come) (hg : InR gone) (c0 : 0 ≤ come) (g0 : 0 ≤ gone) : InR (brg a come gone).1 ∧ InR (brg a come gone).2 := by
  have h3 := pl_in h1 hc c0
  refine ⟨ms_in h3 hg g0, ?_⟩
  show InR (mx a.2 (pl a.1 come))
  unfold mx; split
  · exact h3
  · exact h2
def cellOf (L : List Cd) (t : It) : Option Cd := L[t.cell.toNat]?
/-- the balances of a volume behind the first k items: names, bytes -/
def acc (L : List Cd) (T : List It) (v : Int) : Nat → (Int × Int) × (Int × Int)
  | 0 => ((0, 0), (0, 0))
  | k + 1 => match T[k]? with
    | some t => if t.to = v ∧ t.what = 3 then
        match cellOf L t with
        | some c => (brg (acc L T v k).1 c.names c.hn, brg (acc L T v k).2 c.bytes c.hb)
        | none => acc L T v k
      else acc L T v k
    | none => acc L T v k
theorem acc_in {L : List Cd} {T : List It} {v : Int} (hO : ∀ c ∈ L, c.ok) (hP : ∀ c ∈ L, c.pos) : ∀ k, InR (acc L T v k).1.1 ∧ InR (acc L T v k).1.2 ∧ InR (acc L T v k).2.1 ∧ InR (acc L T v k).2.2
  | 0 => by simp [acc, InR]
  | k + 1 => by
    have ih := acc_in (T := T) (v := v) hO hP k
    simp only [acc]
    split
    · split
      · split
        · rename_i c hc
          have h1 := hO c (List.mem_of_getElem? hc)
          have h2 := hP c (List.mem_of_getElem? hc)
          obtain ⟨_, _, _, _, _, a, b, d, e⟩ := h1
          obtain ⟨_, _, a', b', d', e'⟩ := h2
          have := brg_in ih.1 ih.2.1 a d a' d'
          have := brg_in ih.2.2.1 ih.2.2.2 b e b' e'
          simp_all
        · exact ih
      · exact ih
    · exact ih
def cap (most : Int) : Int := mn (mx most 1) 1048576
theorem cap_bd (most : Int) : 1 ≤ cap most ∧ cap most ≤ 1048576 := by unfold cap mn mx; split <;> split <;> omega
/-- the plan -/
structure Pl where
  items : List It
  left : List Int
  na : Int
  ba : Int
  nb : Int
  bb : Int
def planF (L : List Cd) (most : Int) : Pl :=
  let C := L.map cnt
  let B := leave C (cap most)
  let T := its C B C.length
  ⟨T, pls B B.length, (acc C T 0 T.length).1.2, (acc C T 0 T.length).2.2, (acc C T 1 T.length).1.2, (acc C T 1 T.length).2.2⟩
end Go.Proofs.YtpenaeoodfgmpaaGreatDoor
