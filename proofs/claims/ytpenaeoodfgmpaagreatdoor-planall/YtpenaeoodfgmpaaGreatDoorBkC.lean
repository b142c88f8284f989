/-
  THE BOOK: what its two kinds share.
-/
import Derived.Test.YtpenaeoodfgmpaaGreatDoorBkKeep
import Derived.Test.YtpenaeoodfgmpaaGreatDoorMarks
import Derived.Test.YtpenaeoodfgmpaaGreatDoorRN
import Derived.Test.YtpenaeoodfgmpaaGreatDoorSameP
import Derived.Maps.AppendAt
import Derived.Laws.OwnMore
import Derived.Deep.Cut
import Derived.Deep.RegionHeld3
import Derived.Deep.AppendLies
import Derived.Deep.DeepCutAuto
import Derived.Deep.RegionLaw
namespace Go.Proofs.YtpenaeoodfgmpaaGreatDoor
open Go.RowKit Bk

theorem Bk.Rows.zext {B : Nat} {ty : Nat → TypeId} {w : World} {lo K : Nat} {T : Nat → Nat} {hs : List Value} {X : List (List Value)} {z z' : Nat → Value} (R : Bk.Rows B ty w lo K T hs X z) (h : ∀ o, o < 148 → (o < B ∨ B + 8 ≤ o) → z o = z' o) : Bk.Rows B ty w lo K T hs X z' :=
  ⟨R.ge, R.lt, R.low, R.tK, R.fz, R.nh, R.nX, R.cell, R.row, R.tag, fun o h1 h2 => by rw [← h o h1 h2]; exact R.rest o h1 h2⟩


theorem mkHid {p : Prop} (h : p) : Hid p := h
theorem cell_alloc_l {W : World} {a : Addr} {v : Value} (o : Obj) (h : W.cell? a = some v) : (W.alloc o).cell? a = some v := by
  rw [World.cell?_of_block (w := W) (Below.heap_alloc W o a.block (World.block_lt_of_cell? W a h))]; exact h
theorem row_form {w : World} {lo e s n : Nat} {v : Value} {xs : List Value} (h : w.ownsRow lo e s v n xs) : ∃ o c, v = .slice o n c := by
  obtain ⟨_, h | ⟨g, cap, cur, hv, _⟩⟩ := h
  · exact ⟨none, 0, by rw [h.1, h.2]⟩
  · exact ⟨_, cap, hv⟩
theorem row_at {w : World} {lo e : Nat} {v : Value} {xs : List Value} (h : w.ownsRow lo e 1 v xs.length xs) {j : Nat} (hj : j < xs.length) :
    ∃ g cap, v = .slice (some ⟨g, 0, none⟩) xs.length cap ∧ w.cell? ⟨g, j, none⟩ = some (xs[j]) := by
  have h0 := h
  obtain ⟨_, h | ⟨g, cap, cur, hv, _⟩⟩ := h
  · omega
  · subst hv
    refine ⟨g, cap, rfl, ?_⟩
    have := World.ownsRow.cells h0 (g := g) rfl j xs[j] (List.getElem?_eq_getElem hj)
    rwa [show (⟨g, 0, none⟩ : Addr).add j = ⟨g, j, none⟩ from by
      unfold Addr.add; split
      · rename_i e; rw [e]
      · simp] at this


theorem run_append_kept {P : Program} (w : World) (base : Nat) (t ty e : TypeId) (i : TypeInfo) (z : Value) (size bytes : Nat) (ht : P.underlying t = some (.slice e)) (hi : P.info? e = some i) (hz : i.zero = some z)
    (hsize : i.size = size) (hby : i.bytes = bytes) (hzs : z.cells.size = size) (hsz : 0 < size)
    (v : Value) (n : Nat) (xs : List Value) (hown : w.ownsRow base e size v n xs)
    (a : Addr) (m c : Nat) (news : List Value) (hl : news.length = m * size) (hnews : ∀ j u, news[j]? = some u → w.cell? (a.add j) = some u) (h1 : ∀ u ∈ news, u.oneCell' = true)
    (h63 : n + m ≤ maxLen) (hbytes : (n + m) * bytes ≤ 140737488355328) (hbase : base ≤ w.heap.size) :
    ∃ v' w', (Builtin.append_ #[t, t] ty #[v, .slice (some a) m c]).run P w = .ok v' w' ∧ w'.ownsRow base e size v' (n + m) (xs ++ news) ∧ w.grownBy w' v.ownBlock ∧
      (v'.ownBlock = v.ownBlock ∨ v'.ownBlock = some w.heap.size) ∧ ∀ g, v.ownBlock = some g → ∀ (j : Nat) (u : Value), xs[j]? = some u → w'.cell? ((⟨g, 0, none⟩ : Addr).add j) = some u := by
  obtain ⟨v', w', hr, h2, h3, _, h5⟩ := run_append_own_at (P := P) w base t ty e i z size bytes ht hi hz hsize hby hzs hsz v n xs hown a m c news hl hnews h1 h63 hbytes hbase
  refine ⟨v', w', hr, h2, h3, h5, fun g hg j u hu => ?_⟩
  have hj := (List.getElem?_eq_some_iff.1 hu).1
  have hlt := (World.ownsRow.lt hown g hg).2
  have hold : w.cell? ((⟨g, 0, none⟩ : Addr).add j) = some u := World.ownsRow.cells hown (g := g) hg j u hu
  by_cases hsame : v'.ownBlock = v.ownBlock
  · refine World.ownsRow.cells h2 (g := g) (hsame.trans hg) j u ?_
    rw [List.getElem?_append_left hj]; exact hu
  · -- it moved: then the elder row is as it was
    rcases hown.2 with ⟨rfl, _⟩ | ⟨g', cap, cur, rfl, hbg, hgg, hnc, hcm, hcs, htake⟩
    · simp [Value.ownBlock] at hg
    · by_cases hroom : n + m ≤ cap
      · obtain ⟨w2, hr2, _, _⟩ := run_append_fits (P := P) w base t ty e i size ht hi hsize g' n cap xs hown a m c news hl hnews h1 hroom
        rw [hr] at hr2
        injection hr2 with e1 e2
        subst e1
        exact absurd rfl hsame
      · have hr2 := run_append_grow (P := P) w t ty e i z ht hi hz ⟨g', 0, none⟩ n cap xs (by rw [hsize]; exact hown.1) (hown.cells (g := g') rfl) a m c news (by rw [hsize]; exact hl) hnews (by omega) (by simp only [maxLen] at h63; omega) (growslice_fits (by omega) (by rw [hby]; exact hbytes))
        rw [hr] at hr2
        injection hr2 with e1 e2
        subst e2
        have hb : ((⟨g, 0, none⟩ : Addr).add j).block = g := by unfold Addr.add; split <;> rfl
        rw [World.cell?_of_block (w := w) ?_]
        · exact hold
        · rw [hb]
          exact Below.heap_alloc w.drew _ g hlt
/-- at the operation -/
theorem wpList_append_kept {P : Program} {w : World} {ops : Array Oper} {rest : List Oper} {o : Oper} {a : Act} {Q : Exit → Act → World → Prop} (hgd : o.guard = none) (s x : Operand) (t : TypeId)
    (ho : o.op = .call { callee := .builtin .append, args := #[s, x], argTypes := #[t, t] })
    (base : Nat) (e : TypeId) (i : TypeInfo) (z : Value) (size bytes : Nat) (ht : P.underlying t = some (.slice e)) (hi : P.info? e = some i) (hz : i.zero = some z)
    (hsize : i.size = size) (hby : i.bytes = bytes) (hzs : z.cells.size = size) (hsz : 0 < size)
    (v : Value) (n : Nat) (xs : List Value) (hs : a.eval s = v) (hown : w.ownsRow base e size v n xs)
    (ad : Addr) (m c : Nat) (news : List Value) (hx : a.eval x = .slice (some ad) m c) (hl : news.length = m * size) (hnews : ∀ j u, news[j]? = some u → w.cell? (ad.add j) = some u) (h1 : ∀ u ∈ news, u.oneCell' = true)
    (h63 : n + m ≤ maxLen) (hbytes : (n + m) * bytes ≤ 140737488355328) (hbase : base ≤ w.heap.size)
    (h : ∀ v' w', w'.ownsRow base e size v' (n + m) (xs ++ news) → w.grownBy w' v.ownBlock → (v'.ownBlock = v.ownBlock ∨ v'.ownBlock = some w.heap.size) →
      (∀ g, v.ownBlock = some g → ∀ (j : Nat) (u : Value), xs[j]? = some u → w'.cell? ((⟨g, 0, none⟩ : Addr).add j) = some u) → wpList P ops Q rest (a.put o.dst v') w') :
    wpList P ops Q (o :: rest) a w := by
  refine wpList_plain hgd fun K hK => ?_
  obtain ⟨v', w', hr, h2, h3, h4, h5⟩ := run_append_kept (P := P) w base t o.type e i z size bytes ht hi hz hsize hby hzs hsz v n xs hown ad m c news hl hnews h1 h63 hbytes hbase
  unfold Oper.wp execOp
  simp only [ho, resolve, invoke, builtin, Sem.run_bind, Sem.run_pure, Result.andThen_ok, List.map_toArray, List.map_cons, List.map_nil, hs, hx, hr]
  exact hK _ _ (h v' w' h2 h3 h4 h5)

/-- The turn at which the n-th list is due. -/
def dueOf (turn n : Nat) : Nat := if n % 3 = 0 then turn else if n % 3 = 1 then turn + 1 + n / 3 % 8 else turn + 1

set_option maxHeartbeats 800000 in
set_option maxRecDepth 100000 in
theorem due_any (K turn n : Nat) (w : World) (h0 : w.cell? ⟨K, 0, none⟩ = some (.bool false)) (h2 : w.cell? ⟨K, 2, none⟩ = some (.int .i64 turn)) (ht : turn ≤ 1000000) (hn : n ≤ 1000000) :
    Calls Tryz.prog 69 #[.pointer (some ⟨K, 0, none⟩), .int .i64 n] w fun e w' => e = .returned (.int .i64 (dueOf turn n)) ∧ w' = w := by
  by_cases c0 : n % 3 = 0
  · have e : dueOf turn n = turn := by simp [dueOf, c0]
    rw [e]
    go_enter Tryz.func69, Tryz.ntmps69
    go_wp2
    go_ret
    exact ⟨rfl, rfl⟩
  by_cases c1 : n % 3 = 1
  · have e : dueOf turn n = turn + 1 + n / 3 % 8 := by simp [dueOf, c1]
    rw [e]
    go_enter Tryz.func69, Tryz.ntmps69
    go_wp2
    go_ret
    exact ⟨rfl, rfl⟩
  · have e : dueOf turn n = turn + 1 := by simp [dueOf, c0, c1]
    rw [e]
    go_enter Tryz.func69, Tryz.ntmps69
    go_wp2
    go_ret
    exact ⟨rfl, rfl⟩


set_option maxHeartbeats 1600000 in
set_option maxRecDepth 100000 in
theorem done_by (K turn : Nat) (w : World) (Q1 Q2 : World → Prop) (h3 : w.cell? ⟨K, 3, none⟩ = some (.int .i64 1)) (hf : ∀ o, w.frozen? ⟨K, o, none⟩ = false) (ht : turn ≤ 1000000)
    (hM : Calls Tryz.prog 70 #[.pointer (some ⟨K, 0, none⟩)] (w.setCell ⟨K, 3, none⟩ (.int .i64 0)) fun e w' => e = .returned (.tuple #[]) ∧ Q1 w')
    (hG : ∀ w1, Q1 w1 → Calls Tryz.prog 71 #[.pointer (some ⟨K, 0, none⟩)] w1 fun e w' => e = .returned (.tuple #[]) ∧ Q2 w')
    (hT : ∀ w2, Q2 w2 → w2.cell? ⟨K, 2, none⟩ = some (.int .i64 turn) ∧ ∀ o, w2.frozen? ⟨K, o, none⟩ = false) :
    Calls Tryz.prog 28 #[.pointer (some ⟨K, 0, none⟩)] w fun e w' => e = .returned (.tuple #[]) ∧ ∃ w2, Q2 w2 ∧ w' = w2.setCell ⟨K, 2, none⟩ (.int .i64 (turn + 1 : Nat)) := by
  have HG : Hid (∀ w1, Q1 w1 → Calls Tryz.prog 71 #[.pointer (some ⟨K, 0, none⟩)] w1 fun e w' => e = .returned (.tuple #[]) ∧ Q2 w') := hG
  have HT : Hid (∀ w2, Q2 w2 → w2.cell? ⟨K, 2, none⟩ = some (.int .i64 turn) ∧ ∀ o, w2.frozen? ⟨K, o, none⟩ = false) := hT
  have HM : Hid (Calls Tryz.prog 70 #[.pointer (some ⟨K, 0, none⟩)] (w.setCell ⟨K, 3, none⟩ (.int .i64 0)) fun e w' => e = .returned (.tuple #[]) ∧ Q1 w') := hM
  clear hM hG hT
  go_enter Tryz.func28, Tryz.ntmps28
  go_wp2_with fail
  refine HM.out.mono ?_
  rintro e w1 ⟨rfl, hq1⟩
  have C := HG.out w1 hq1
  have HC : Hid (Calls Tryz.prog 71 #[.pointer (some ⟨K, 0, none⟩)] w1 fun e w' => e = .returned (.tuple #[]) ∧ Q2 w') := C
  clear C hq1
  go_wp2_with fail
  refine HC.out.mono ?_
  rintro e w2 ⟨rfl, hq2⟩
  obtain ⟨k2, kf⟩ := HT.out w2 hq2
  have HQ : Hid (Q2 w2) := hq2
  clear hq2 h3 hf
  go_wp2
  go_end0
  exact ⟨rfl, w2, HQ.out, by simp⟩

/-- 'done' in the midst of a greater entry. -/
theorem done_in (K : Nat) (w : World) (h3 : w.cell? ⟨K, 3, none⟩ = some (.int .i64 2)) (hf : ∀ o, w.frozen? ⟨K, o, none⟩ = false) :
    Calls Tryz.prog 28 #[.pointer (some ⟨K, 0, none⟩)] w fun e w' => e = .returned (.tuple #[]) ∧ w' = w.setCell ⟨K, 3, none⟩ (.int .i64 1) := by
  go_enter Tryz.func28, Tryz.ntmps28
  go_wp2
  (try simp only [Exit.inBlock, Exit.then])
  refine bodyPost_ret (results_none rfl _ _ _) rfl ?_
  exact ⟨rfl, rfl⟩
theorem Tryz.info50 : (Tryz.prog.info? 50).map (fun i => (i.zero, i.size, i.bytes)) = some (some (.slice none 0 0), 1, 24) := by kernel_rfl
theorem Tryz.info28 : (Tryz.prog.info? 28).map (fun i => (i.zero, i.size, i.bytes)) = some (some (.slice none 0 0), 1, 24) := by kernel_rfl
theorem Tryz.info71 : (Tryz.prog.info? 71).map (fun i => (i.zero, i.size, i.bytes)) = some (some (.agg z45), 7, 64) := by kernel_rfl
end Go.Proofs.YtpenaeoodfgmpaaGreatDoor
