import Derived.Test.YtbjjbgaomoihaaaGreatDoorCount
set_option maxRecDepth 100000
namespace Go.Proofs.YtbjjbgaomoihaaaGreatDoor
open Go.ChangeShapes Go.WideShapes Go.ChangeAt Go.RowKit
theorem sum_in {H : Type} {enc : TypeId × Value → H} {W : World} {fuel : Nat} {cs : List Value} {x : DataW H × List MemPlace}
    (hf : DataW.trod enc Tryz.prog W 0 (fun _ => true) true fuel 22 cs = some x) : ∃ l : List Nat, cs = l.map vb ∧ l.length = 32 := by
  obtain ⟨xs, m, _, _, hl, hxs, hel⟩ := DataW.trod_array Tryz.underlying22 hf
  have h1 : Tryz.prog.cellsOf 5 = 1 := by kernel_rfl
  have h2 : Tryz.prog.cellsOf 22 = 32 := by kernel_rfl
  rw [h2] at hl
  have each : ∀ i, ∃ z : Nat, i < 32 → cs[i]? = some (vb z) := fun i => by
    by_cases hi : i < 32
    · have h := hel i hi
      rw [h1, Nat.mul_one, List.getElem?_eq_getElem (by omega)] at h
      obtain ⟨n, hn, _, hw⟩ := DataW.trod_int Tryz.underlying5 h
      have hb := bounds_u8 hw
      refine ⟨n.toNat, fun _ => ?_⟩
      have hc : (cs.drop i).take 1 = [Value.int .u8 n] := hn
      rw [List.take_one, List.head?_drop] at hc
      rw [List.getElem?_eq_getElem (by omega)] at hc ⊢
      simp only [Option.toList_some, List.cons.injEq, and_true] at hc
      rw [hc]
      unfold vb
      rw [Int.toNat_of_nonneg hb.1]
    · exact ⟨0, fun h => absurd h hi⟩
  obtain ⟨f, hfz⟩ := Classical.skolem.1 each
  refine ⟨(List.range 32).map f, ?_, by simp⟩
  apply List.ext_getElem?
  intro i
  by_cases hi : i < 32
  · rw [hfz i hi]; simp [hi]
  · rw [List.getElem?_eq_none (by omega), List.getElem?_eq_none (by simp; omega)]
theorem cons_of_len {α : Type} {l : List α} {n : Nat} (h : l.length = n + 1) : ∃ a r, l = a :: r ∧ r.length = n := by
  cases l with
  | nil => simp at h
  | cons a r => exact ⟨a, r, rfl, by simpa using h⟩
theorem val_in {H : Type} {enc : TypeId × Value → H} {W : World} {fuel : Nat} {cs : List Value} {x : DataW H × List MemPlace}
    (hf : DataW.trod enc Tryz.prog W 0 (fun _ => true) true fuel 24 cs = some x) : ∃ v : Vd, cs = vx v := by
  obtain ⟨xs, n, _, _, hl, hxs, hel⟩ := DataW.trod_struct Tryz.underlying24 hf
  rw [show Tryz.prog.cellsOf 24 = 35 by kernel_rfl] at hl
  have hx4 : xs.length = 4 := hxs
  have g0 : DataW.trod enc Tryz.prog W 0 (fun _ => true) true n 3 ((cs.drop 0).take (Tryz.prog.cellsOf 3)) = xs[0]? := hel 0 _ rfl
  have g1 : DataW.trod enc Tryz.prog W 0 (fun _ => true) true n 3 ((cs.drop 1).take (Tryz.prog.cellsOf 3)) = xs[1]? := hel 1 _ rfl
  have g2 : DataW.trod enc Tryz.prog W 0 (fun _ => true) true n 3 ((cs.drop 2).take (Tryz.prog.cellsOf 3)) = xs[2]? := hel 2 _ rfl
  have g3 : DataW.trod enc Tryz.prog W 0 (fun _ => true) true n 22 ((cs.drop 3).take (Tryz.prog.cellsOf 22)) = xs[3]? := hel 3 _ rfl
  rw [show Tryz.prog.cellsOf 3 = 1 by kernel_rfl] at g0 g1 g2
  rw [show Tryz.prog.cellsOf 22 = 32 by kernel_rfl] at g3
  rw [List.getElem?_eq_getElem (by omega)] at g0 g1 g2 g3
  obtain ⟨k, hk, _, _⟩ := DataW.trod_int Tryz.underlying3 g0
  obtain ⟨md, hmd, _, _⟩ := DataW.trod_int Tryz.underlying3 g1
  obtain ⟨sz, hsz, _, _⟩ := DataW.trod_int Tryz.underlying3 g2
  obtain ⟨l, hsl, hll⟩ := sum_in g3
  obtain ⟨c0, t0, rfl, q0⟩ := cons_of_len hl
  obtain ⟨c1, t1, rfl, q1⟩ := cons_of_len q0
  obtain ⟨c2, r, rfl, q2⟩ := cons_of_len q1
  refine ⟨⟨k, md, sz, l, hll⟩, ?_⟩
  simp only [List.drop_zero, List.take_succ_cons, List.take_zero, List.drop_succ_cons, List.cons.injEq, and_true] at hk hmd hsz
  have hr : r.take 32 = l.map vb := hsl
  rw [List.take_of_length_le (by omega)] at hr
  rw [hk, hmd, hsz, hr]; rfl
theorem mark_in {H : Type} {enc : TypeId × Value → H} {W : World} {fuel : Nat} {cs : List Value} {x : DataW H × List MemPlace}
    (hf : DataW.trod enc Tryz.prog W 0 (fun _ => true) true fuel 26 cs = some x) : ∃ a b : Int, cs = [.int .i64 a, .int .i64 b] := by
  obtain ⟨xs, n, _, _, hl, hxs, hel⟩ := DataW.trod_struct Tryz.underlying26 hf
  rw [show Tryz.prog.cellsOf 26 = 2 by kernel_rfl] at hl
  have hx4 : xs.length = 2 := hxs
  have g0 : DataW.trod enc Tryz.prog W 0 (fun _ => true) true n 3 ((cs.drop 0).take (Tryz.prog.cellsOf 3)) = xs[0]? := hel 0 _ rfl
  have g1 : DataW.trod enc Tryz.prog W 0 (fun _ => true) true n 3 ((cs.drop 1).take (Tryz.prog.cellsOf 3)) = xs[1]? := hel 1 _ rfl
  rw [show Tryz.prog.cellsOf 3 = 1 by kernel_rfl] at g0 g1
  rw [List.getElem?_eq_getElem (by omega)] at g0 g1
  obtain ⟨k, hk, _, _⟩ := DataW.trod_int Tryz.underlying3 g0
  obtain ⟨md, hmd, _, _⟩ := DataW.trod_int Tryz.underlying3 g1
  obtain ⟨c0, t0, rfl, q3⟩ := cons_of_len hl
  obtain ⟨c1, t1, rfl, q4⟩ := cons_of_len q3
  obtain rfl := List.length_eq_zero_iff.1 q4
  simp only [List.drop_zero, List.take_succ_cons, List.take_zero, List.drop_succ_cons, List.cons.injEq, and_true] at hk hmd
  exact ⟨k, md, by rw [hk, hmd]⟩
theorem marks_in {H : Type} {enc : TypeId × Value → H} {W : World} {fuel : Nat} {cs : List Value} {x : DataW H × List MemPlace}
    (hf : DataW.trod enc Tryz.prog W 0 (fun _ => true) true fuel 27 cs = some x) : ∃ m : Md, cs = mx m := by
  obtain ⟨xs, n, _, _, hl, hxs, hel⟩ := DataW.trod_array Tryz.underlying27 hf
  rw [show Tryz.prog.cellsOf 27 = 4 by kernel_rfl] at hl
  have g0 := hel 0 (by omega)
  have g1 := hel 1 (by omega)
  rw [show Tryz.prog.cellsOf 26 = 2 by kernel_rfl] at g0 g1
  rw [List.getElem?_eq_getElem (by omega)] at g0 g1
  obtain ⟨a, b, h0⟩ := mark_in g0
  obtain ⟨c, d, h1⟩ := mark_in g1
  obtain ⟨c0, t0, rfl, q5⟩ := cons_of_len hl
  obtain ⟨c1, t1, rfl, q6⟩ := cons_of_len q5
  obtain ⟨c2, t2, rfl, q7⟩ := cons_of_len q6
  obtain ⟨c3, t3, rfl, q8⟩ := cons_of_len q7
  obtain rfl := List.length_eq_zero_iff.1 q8
  simp only [Nat.zero_mul, Nat.one_mul, List.drop_zero, List.take_succ_cons, List.take_zero, List.drop_succ_cons, List.cons.injEq, and_true] at h0 h1
  exact ⟨⟨a, b, c, d⟩, by rw [h0.1, h0.2, h1.1, h1.2]; rfl⟩
def ofL : List (ByteArray × Vd × Md × F) → F
  | [] => .nil
  | x :: l => .cons x.1 x.2.1 x.2.2.1 x.2.2.2 (ofL l)
theorem ofL_len : ∀ l, (ofL l).len = l.length
  | [] => rfl
  | _ :: l => by rw [ofL, F.len, ofL_len l]; rfl
def NodeIn (W : World) (cs : List Value) (x : ByteArray × Vd × Md × F) : Prop := ∃ kv, cs = (nc x.1 x.2.1 x.2.2.1 kv).toList ∧ HasS W kv x.2.2.2 ∧ x.1.size ≤ 9223372036854775807 ∧ x.2.2.2.ok ∧ x.2.2.2.len ≤ 9223372036854775807
theorem row_in {W : World} {g : Nat} : ∀ (l : List (ByteArray × Vd × Md × F)) (o : Nat), (∀ i x, l[i]? = some x → ∃ cs, NodeIn W cs x ∧ ∀ j u, cs[j]? = some u → W.cell? ⟨g, o + i * 41 + j, none⟩ = some u) → HasR W (ofL l) g o ∧ (ofL l).ok
  | [], _, _ => ⟨trivial, trivial⟩
  | x :: l, o, h => by
    obtain ⟨cs, ⟨kv, rfl, ⟨a, cap, rfl, hl, hk⟩, hs, hok, hlen⟩, hc⟩ := h 0 x rfl
    have ih := row_in l (o + 41) (fun i y hy => by
      obtain ⟨cs, h1, h2⟩ := h (i + 1) y (by simpa using hy)
      exact ⟨cs, h1, fun j u hj => by have := h2 j u hj; rwa [show o + (i + 1) * 41 + j = o + 41 + i * 41 + j by omega] at this⟩)
    refine ⟨⟨⟨a, cap, fun j u hj => ?_, hl, hk⟩, ih.1⟩, hs, hlen, hok, ih.2⟩
    have := hc j u (by simpa using hj)
    simpa using this
theorem node_in {H : Type} {enc : TypeId × Value → H} {W : World} : ∀ (fuel : Nat) (cs : List Value) (x : DataW H × List MemPlace), DataW.trod enc Tryz.prog W 0 (fun _ => true) true fuel 30 cs = some x → ∃ y, NodeIn W cs y := by
  intro fuel
  induction fuel using Nat.strongRecOn with
  | _ fuel ih =>
    intro cs x hf
    obtain ⟨xs, n, hn, _, hl, hxs, hel⟩ := DataW.trod_struct Tryz.underlying30 hf
    rw [show Tryz.prog.cellsOf 30 = 41 by kernel_rfl] at hl
    have hx4 : xs.length = 4 := hxs
    have g0 : DataW.trod enc Tryz.prog W 0 (fun _ => true) true n 9 ((cs.drop 0).take (Tryz.prog.cellsOf 9)) = xs[0]? := hel 0 _ rfl
    have g1 : DataW.trod enc Tryz.prog W 0 (fun _ => true) true n 24 ((cs.drop 1).take (Tryz.prog.cellsOf 24)) = xs[1]? := hel 1 _ rfl
    have g2 : DataW.trod enc Tryz.prog W 0 (fun _ => true) true n 27 ((cs.drop 36).take (Tryz.prog.cellsOf 27)) = xs[2]? := hel 2 _ rfl
    have g3 : DataW.trod enc Tryz.prog W 0 (fun _ => true) true n 28 ((cs.drop 40).take (Tryz.prog.cellsOf 28)) = xs[3]? := hel 3 _ rfl
    rw [show Tryz.prog.cellsOf 9 = 1 by kernel_rfl] at g0
    rw [show Tryz.prog.cellsOf 24 = 35 by kernel_rfl] at g1
    rw [show Tryz.prog.cellsOf 27 = 4 by kernel_rfl] at g2
    rw [show Tryz.prog.cellsOf 28 = 1 by kernel_rfl] at g3
    rw [List.getElem?_eq_getElem (by omega)] at g0 g1 g2 g3
    obtain ⟨nm, hnm, _, hns⟩ := DataW.trod_string Tryz.underlying9 g0
    obtain ⟨v, hv⟩ := val_in g1
    obtain ⟨m, hm⟩ := marks_in g2
    have hkids : ∃ kv f, (cs.drop 40).take 1 = [kv] ∧ HasS W kv f ∧ f.ok ∧ f.len ≤ 9223372036854775807 := by
      rcases DataW.trod_slice Tryz.underlying28 g3 with ⟨hcs, _⟩ | ⟨ad, len, cap, elems, rest, n2, hn2, hcs, _, _, hle, hmx, hlen, hel2, _, _⟩
      · exact ⟨_, .nil, hcs, ⟨none, 0, rfl, Nat.le_refl _, .inl rfl⟩, trivial, by simp [F.len]⟩
      · unfold maxLen at hmx
        rw [show Tryz.prog.cellsOf 30 = 41 by kernel_rfl] at hel2
        have each : ∀ i, ∃ y : ByteArray × Vd × Md × F, i < len → ∃ cs', NodeIn W cs' y ∧ ∀ j u, cs'[j]? = some u → W.cell? ((ad.add (i * 41)).add j) = some u := fun i => by
          by_cases hi : i < len
          · have h := hel2 i hi
            rw [List.getElem?_eq_getElem (by omega), Option.bind_eq_some_iff] at h
            obtain ⟨cs', hc, ht⟩ := h
            obtain ⟨_, hcl, hcc⟩ := World.cells?_some hc
            obtain ⟨y, hy⟩ := ih n2 (by omega) cs' _ ht
            refine ⟨y, fun _ => ⟨cs', hy, fun j u hj => ?_⟩⟩
            have hjl := (List.getElem?_eq_some_iff.1 hj).1
            rw [hcc j (by omega)]
            exact hj
          · exact ⟨⟨⟨#[]⟩, ⟨0, 0, 0, List.replicate 32 0, by simp⟩, ⟨0, 0, 0, 0⟩, .nil⟩, fun h => absurd h hi⟩
        obtain ⟨f, hfz⟩ := Classical.skolem.1 each
        by_cases h0 : len = 0
        · subst h0
          exact ⟨_, .nil, hcs, ⟨some ad, cap, rfl, Nat.zero_le _, .inl rfl⟩, trivial, by simp [F.len]⟩
        · have hsp : ad.spot = none := by
            obtain ⟨cs', ⟨kv, rfl, _⟩, h⟩ := hfz 0 (by omega)
            have h := h 0 (.string (f 0).1) (by simpa using nc_name (f 0).1 (f 0).2.1 (f 0).2.2.1 kv)
            rw [Nat.zero_mul, show (ad.add 0).add 0 = ad from rfl] at h
            unfold World.cell? at h
            split at h
            · split at h
              · cases h
              · rename_i hs; simpa using hs
            · cases h
          obtain ⟨b, o, s⟩ := ad
          simp only at hsp
          subst hsp
          have hrow := row_in (W := W) (g := b) ((List.range len).map f) o (fun i y hy => by
            have hi : i < len := by have := (List.getElem?_eq_some_iff.1 hy).1; simpa using this
            have hyf : y = f i := by simp [hi] at hy; exact hy.symm
            subst hyf
            obtain ⟨cs', h1, h2⟩ := hfz i hi
            exact ⟨cs', h1, fun j u hj => by have := h2 j u hj; rwa [Addr.add_mid, Addr.add_mid] at this⟩)
          have hlenF : (ofL ((List.range len).map f)).len = len := by rw [ofL_len]; simp
          exact ⟨_, ofL ((List.range len).map f), hcs, ⟨_, cap, by rw [hlenF], by rw [hlenF]; exact hle, .inr ⟨b, o, rfl, hrow.1⟩⟩, hrow.2, by rw [hlenF]; omega⟩
    obtain ⟨kv, f, hkv, hS, hfo, hfl⟩ := hkids
    refine ⟨⟨nm, v, m, f⟩, kv, ?_, hS, by show nm.size ≤ _; have : maxLen = 9223372036854775807 := rfl; omega, hfo, hfl⟩
    have e0 : cs = cs.take 1 ++ ((cs.drop 1).take 35 ++ ((cs.drop 36).take 4 ++ (cs.drop 40).take 1)) := by
      have a1 := List.take_append_drop 1 cs
      have a2 := List.take_append_drop 35 (cs.drop 1)
      have a3 := List.take_append_drop 4 (cs.drop 36)
      rw [List.drop_drop] at a2 a3
      rw [List.take_of_length_le (l := cs.drop 40) (by rw [List.length_drop]; omega)]
      have a3' : (cs.drop 36).take 4 ++ cs.drop 40 = cs.drop 36 := a3
      have a2' : (cs.drop 1).take 35 ++ cs.drop 36 = cs.drop 1 := a2
      rw [a3', a2', a1]
    have hnm' : cs.take 1 = [.string nm] := by simpa using hnm
    rw [e0, hnm', hv, hm, hkv]
    simp [nc]
end Go.Proofs.YtbjjbgaomoihaaaGreatDoor
