import Derived.Test.YtbjjbgaomoihaaaGreatDoorPlace
set_option maxRecDepth 100000
set_option maxHeartbeats 2000000
namespace Go.Proofs.YtbjjbgaomoihaaaGreatDoor
open Go
theorem ownsRow_shorter {w : World} {base : Nat} {e : TypeId} {size g n m cap : Nat} {xs ys : List Value} (h : w.ownsRow base e size (.slice (some ⟨g, 0, none⟩) (n + m) cap) (n + m) (xs ++ ys)) (hl : xs.length = n * size) : w.ownsRow base e size (.slice (some ⟨g, 0, none⟩) n cap) n xs := by
  obtain ⟨_, h | ⟨g', cap', cur, hv, hb, hh, hn, hm, hs, ht⟩⟩ := h
  · cases h.1
  · injection hv with e1 e2 e3
    injection e1 with e1
    injection e1 with e1
    subst e1 e3
    refine ⟨hl, .inr ⟨g, cap, cur, rfl, hb, hh, by omega, hm, hs, ?_⟩⟩
    have h2 := congrArg (List.take (n * size)) ht
    rw [List.take_take, List.take_append_of_le_length (by omega), List.take_of_length_le (l := xs) (by omega), Nat.min_eq_left (Nat.mul_le_mul_right _ (by omega))] at h2
    exact h2
def Behind (w : World) (v v' : Value) : Prop := (∃ g n m cap, v = .slice (some ⟨g, 0, none⟩) n cap ∧ v' = .slice (some ⟨g, 0, none⟩) (n + m) cap) ∨ v'.ownBlock = some w.heap.size
theorem run_append_both {P : Program} (w : World) (base : Nat) (t ty e : TypeId) (i : TypeInfo) (z : Value) (size bytes : Nat) (ht : P.underlying t = some (.slice e)) (hi : P.info? e = some i) (hz : i.zero = some z)
    (hsize : i.size = size) (hby : i.bytes = bytes) (hzs : z.cells.size = size) (hsz : 0 < size)
    (v : Value) (n : Nat) (xs : List Value) (hown : w.ownsRow base e size v n xs)
    (a : Addr) (m c : Nat) (news : List Value) (hl : news.length = m * size) (hnews : ∀ j u, news[j]? = some u → w.cell? (a.add j) = some u) (h1 : ∀ u ∈ news, u.oneCell' = true)
    (h63 : n + m ≤ maxLen) (hbytes : (n + m) * bytes ≤ 140737488355328) (hbase : base ≤ w.heap.size) (hm0 : 0 < m) :
    ∃ v' w', (Builtin.append_ #[t, t] ty #[v, .slice (some a) m c]).run P w = .ok v' w' ∧ w'.ownsRow base e size v' (n + m) (xs ++ news) ∧ w.grownBy w' v.ownBlock ∧ Behind w v v' ∧ w'.ownsRow base e size v n xs := by
  obtain ⟨v', w', hr, h2, h3, _, h5⟩ := run_append_own_at (P := P) w base t ty e i z size bytes ht hi hz hsize hby hzs hsz v n xs hown a m c news hl hnews h1 h63 hbytes hbase
  rcases hown.2 with ⟨rfl, hn0⟩ | ⟨g', cap, cur, rfl, hbg, hgg, hnc, hcm, hcs, htake⟩
  · refine ⟨v', w', hr, h2, h3, .inr ?_, hown.1, .inl ⟨rfl, hn0⟩⟩
    rcases h5 with h5 | h5
    · obtain ⟨_, h | ⟨g, cap, cur, hv, _⟩⟩ := h2
      · exact absurd h.2 (by omega)
      · rw [hv] at h5; simp [Value.ownBlock] at h5
    · exact h5
  · by_cases hroom : n + m ≤ cap
    · obtain ⟨w2, hr2, ho2, hg2⟩ := run_append_fits (P := P) w base t ty e i size ht hi hsize g' n cap xs hown a m c news hl hnews h1 hroom
      have hr0 := hr2
      rw [hr] at hr0
      injection hr0 with e1 e2
      subst e1 e2
      exact ⟨_, _, hr, h2, h3, .inl ⟨g', n, m, cap, rfl, rfl⟩, ownsRow_shorter h2 hown.1⟩
    · have hr2 := run_append_grow (P := P) w t ty e i z ht hi hz ⟨g', 0, none⟩ n cap xs (by rw [hsize]; exact hown.1) (hown.cells (g := g') rfl) a m c news (by rw [hsize]; exact hl) hnews (by omega) (by simp only [maxLen] at h63; omega) (growslice_fits (by omega) (by rw [hby]; exact hbytes))
      have hr0 := hr2
      rw [hr] at hr0
      injection hr0 with e1 e2
      subst e1
      have hlt := (World.ownsRow.lt hown g' rfl).2
      refine ⟨_, _, hr, h2, h3, .inr rfl, hown.1, .inr ⟨g', cap, cur, rfl, hbg, ?_, hnc, hcm, hcs, htake⟩⟩
      rw [e2]
      exact Eq.trans (by first | exact heap_alloc_old w.drew _ g' hlt | exact heap_alloc_old w.drew _ hlt) hgg
theorem wpList_append_both {P : Program} {w : World} {ops : Array Oper} {rest : List Oper} {o : Oper} {a : Act} {Q : Exit → Act → World → Prop} (hgd : o.guard = none) (s x : Operand) (t : TypeId)
    (ho : o.op = .call { callee := .builtin .append, args := #[s, x], argTypes := #[t, t] })
    (base : Nat) (e : TypeId) (i : TypeInfo) (z : Value) (size bytes : Nat) (ht : P.underlying t = some (.slice e)) (hi : P.info? e = some i) (hz : i.zero = some z)
    (hsize : i.size = size) (hby : i.bytes = bytes) (hzs : z.cells.size = size) (hsz : 0 < size)
    (v : Value) (n : Nat) (xs : List Value) (hs : a.eval s = v) (hown : w.ownsRow base e size v n xs)
    (ad : Addr) (m c : Nat) (news : List Value) (hx : a.eval x = .slice (some ad) m c) (hl : news.length = m * size) (hnews : ∀ j u, news[j]? = some u → w.cell? (ad.add j) = some u) (h1 : ∀ u ∈ news, u.oneCell' = true)
    (h63 : n + m ≤ maxLen) (hbytes : (n + m) * bytes ≤ 140737488355328) (hbase : base ≤ w.heap.size)
    (hm0 : 0 < m) (h : ∀ v' w', w'.ownsRow base e size v' (n + m) (xs ++ news) → w.grownBy w' v.ownBlock → Behind w v v' → w'.ownsRow base e size v n xs → wpList P ops Q rest (a.put o.dst v') w') :
    wpList P ops Q (o :: rest) a w := by
  refine wpList_plain hgd fun K hK => ?_
  obtain ⟨v', w', hr, h2, h3, h4, h5⟩ := run_append_both (P := P) w base t o.type e i z size bytes ht hi hz hsize hby hzs hsz v n xs hown ad m c news hl hnews h1 h63 hbytes hbase hm0
  unfold Oper.wp execOp
  simp only [ho, resolve, invoke, builtin, Sem.run_bind, Sem.run_pure, Result.andThen_ok, List.map_toArray, List.map_cons, List.map_nil, hs, hx, hr]
  exact hK _ _ (h v' w' h2 h3 h4 h5)
end Go.Proofs.YtbjjbgaomoihaaaGreatDoor
namespace Go.Proofs.YtbjjbgaomoihaaaGreatDoor
open Go.RowKit
def faultF : F → Option ByteArray → List ByteArray → Option (List ByteArray × Int)
  | .nil, _, _ => none
  | .cons nm v m ks r, prev, L =>
    if placeE prev nm (L.length + 1) ≠ 0 then some (L ++ [nm], placeE prev nm (L.length + 1))
    else if ownE v m (decide (0 < ks.len)) ≠ 0 then some (L ++ [nm], ownE v m (decide (0 < ks.len)))
    else match faultF ks none (L ++ [nm]) with
      | some x => some x
      | none => faultF r (some nm) L
def faultN (v : Vd) (m : Md) (ks : F) (L : List ByteArray) : Option (List ByteArray × Int) :=
  if ownE v m (decide (0 < ks.len)) ≠ 0 then some (L, ownE v m (decide (0 < ks.len))) else faultF ks none L
theorem faultF_cons (nm : ByteArray) (v : Vd) (m : Md) (ks r : F) (prev : Option ByteArray) (L : List ByteArray) : faultF (.cons nm v m ks r) prev L =
    if placeE prev nm (L.length + 1) ≠ 0 then some (L ++ [nm], placeE prev nm (L.length + 1)) else match faultN v m ks (L ++ [nm]) with | some x => some x | none => faultF r (some nm) L := by
  rw [faultF, faultN]
  by_cases h1 : placeE prev nm (L.length + 1) ≠ 0
  · rw [if_pos h1, if_pos h1]
  · rw [if_neg h1, if_neg h1]
    by_cases h2 : ownE v m (decide (0 < ks.len)) ≠ 0
    · rw [if_pos h2, if_pos h2]
    · rw [if_neg h2, if_neg h2]
def FaultRes (w : World) (u : Value) (er : Int) : Option (List ByteArray × Int) → Prop
  | none => er = 0 ∧ u = .slice none 0 0
  | some (P, e) => er = e ∧ e ≠ 0 ∧ HasT w u P
theorem owns_grow {w w' : World} {lo : Nat} {v : Value} {L : List ByteArray} (h : OwnsT w lo v L) (hg : G w w') : OwnsT w' lo v L := by
  have hlt := World.ownsRow.lt h
  obtain ⟨h1, h | ⟨g, cap, cur, hv, hb, hh, hr⟩⟩ := h
  · exact ⟨h1, .inl h⟩
  · refine ⟨h1, .inr ⟨g, cap, cur, hv, hb, ?_, hr⟩⟩
    rw [Below.block hg g (hlt g (by rw [hv]; rfl)).2]
    exact hh
theorem grownBy_of_G {w w' : World} (h : G w w') (r : Option Nat) : w.grownBy w' r := ⟨h.os, h.tape, h.output, h.size, fun k hk _ => h.block k hk⟩
theorem grownBy_trans {a b c : World} {r : Option Nat} (h : a.grownBy b r) (k : b.grownBy c r) : a.grownBy c r :=
  ⟨k.os.trans h.os, k.tape.trans h.tape, k.output.trans h.output, Nat.le_trans h.size k.size, fun i hi hn => (k.block i (by have := h.size; omega) hn).trans (h.block i hi hn)⟩
theorem grownBy_new {a b c : World} {r r' : Option Nat} (h : a.grownBy b r) (k : b.grownBy c r') (hr : r' = r ∨ ∃ q, r' = some q ∧ a.heap.size ≤ q) : a.grownBy c r :=
  ⟨k.os.trans h.os, k.tape.trans h.tape, k.output.trans h.output, Nat.le_trans h.size k.size, fun i hi hn => (k.block i (by have := h.size; omega) (by rcases hr with rfl | ⟨q, rfl, hq⟩; exact hn; intro e; injection e with e; omega)).trans (h.block i hi hn)⟩
theorem grown_below {lo : Nat} {w w' : World} {v : Value} {L : List ByteArray} (h : w.grownBy w' v.ownBlock) (ho : OwnsT w lo v L) (hl : lo ≤ w.heap.size) : Below lo w w' :=
  (Below.refl lo w).grown h hl fun k hk => (World.ownsRow.lt ho k hk).1
theorem owns_shorter {w w1 w2 : World} {lo : Nat} {v v' : Value} {L M : List ByteArray} (h : OwnsT w1 lo v L) (hb : Behind w v v') (hv : ∀ k, v.ownBlock = some k → k < w.heap.size) (hg : w1.grownBy w2 v'.ownBlock) (h2 : OwnsT w2 lo v' (L ++ M)) : OwnsT w2 lo v L := by
  rcases hb with ⟨g, n, m, cap, rfl, rfl⟩ | hb
  · have hn : n = L.length := by
      obtain ⟨_, q | ⟨g', cap', cur, hv, _⟩⟩ := h
      · cases q.1
      · injection hv
    have hm : n + m = (L ++ M).length := by
      obtain ⟨_, q | ⟨g', cap', cur, hv, _⟩⟩ := h2
      · cases q.1
      · injection hv
    unfold OwnsT at h2 ⊢
    rw [← hm, List.map_append] at h2
    rw [← hn]
    exact ownsRow_shorter h2 (by simp; omega)
  · have hlt := World.ownsRow.lt h
    obtain ⟨h1, q | ⟨g, cap, cur, rfl, hb', hh, hr⟩⟩ := h
    · exact ⟨h1, .inl q⟩
    · refine ⟨h1, .inr ⟨g, cap, cur, rfl, hb', ?_, hr⟩⟩
      rw [hg.block g (hlt g rfl).2 (by rw [hb]; intro e; injection e with e; have := hv g rfl; omega)]
      exact hh
theorem Behind.block {w : World} {v v' : Value} (h : Behind w v v') : v'.ownBlock = v.ownBlock ∨ v'.ownBlock = some w.heap.size := by
  rcases h with ⟨g, n, m, cap, rfl, rfl⟩ | h
  · exact .inl rfl
  · exact .inr h
theorem row_form {w : World} {lo e size n : Nat} {v : Value} {xs : List Value} (h : w.ownsRow lo e size v (n + 1) xs) : ∃ g cap, v = .slice (some ⟨g, 0, none⟩) (n + 1) cap := by
  obtain ⟨_, h | ⟨g, cap, cur, hv, _⟩⟩ := h
  · exact absurd h.2 (by omega)
  · exact ⟨g, cap, hv⟩
def FaultOk (wb : World) (ks : F) : Prop := ∀ (g o : Nat) (nm : ByteArray) (v : Vd) (m : Md) (kv : Value), Lies wb g o (nc nm v m kv) → HasS wb kv ks → ks.okL → ks.ok → ∀ (w : World) (way : Value) (L : List ByteArray), Below wb.heap.size wb w → OwnsT w wb.heap.size way L → L.length ≤ 64 →
    Calls Tryz.prog 28 #[.pointer (some ⟨g, o, none⟩), way] w fun e w' => ∃ u er, e = .returned (.tuple #[u, .int .i64 er]) ∧ w.grownBy w' way.ownBlock ∧ OwnsT w' wb.heap.size way L ∧ FaultRes w' u er (faultN v m ks L)
def PrevIs (ks : F) (k : Nat) (prev : Option ByteArray) : Prop := (k = 0 ∧ prev = none) ∨ ∃ j nm v m k' r, k = j + 1 ∧ prev = some nm ∧ ks.drop j = .cons nm v m k' r
def LI (wb w : World) (way : Value) (L : List ByteArray) (ks : F) (wr : World) (k : Nat) : Prop :=
  OwnsT wr wb.heap.size way L ∧ w.grownBy wr way.ownBlock ∧ Below wb.heap.size wb wr ∧ ∃ prev, PrevIs ks k prev ∧ faultF ks none L = faultF (ks.drop k) prev L
structure AP (wb w : World) (way : Value) (L : List ByteArray) (nm : ByteArray) (down : Value) (W : World) : Prop where
  own : OwnsT W wb.heap.size way L
  own' : OwnsT W wb.heap.size down (L ++ [nm])
  grown : w.grownBy W way.ownBlock
  bel : Below wb.heap.size wb W
  behind : ∃ W0 : World, Behind W0 way down ∧ (∀ k, way.ownBlock = some k → k < W0.heap.size) ∧ w.heap.size ≤ W0.heap.size
theorem AP.made {wb w wr w4 : World} {way down : Value} {L : List ByteArray} {ks : F} {k : Nat} {nm : ByteArray} (h : LI wb w way L ks wr k)
    (hd : w4.ownsRow wb.heap.size 9 1 down (L.length + 1) (L.map Value.string ++ [.string nm])) (hg : (wr.alloc (.cells #[.string nm] 9)).grownBy w4 way.ownBlock) (hb : Behind (wr.alloc (.cells #[.string nm] 9)) way down)
    (hw : w4.ownsRow wb.heap.size 9 1 way L.length (L.map Value.string)) (ho : ∀ k, way.ownBlock = some k → k < w.heap.size) : AP wb w way L nm down w4 := by
  have hsz := h.2.1.size
  refine ⟨hw, ?_, grownBy_trans (grownBy_trans h.2.1 (World.grownBy_alloc _ _ _)) hg, ?_, _, hb, fun k hk => ?_, ?_⟩
  · unfold OwnsT
    simpa using hd
  · refine (h.2.2.1.trans ((Below.refl _ wr).alloc h.2.2.1.size _)).trans ((Below.refl _ _).grown hg (by have := h.2.2.1.size; simp; omega) fun k hk => (World.ownsRow.lt h.1 k hk).1)
  · have := ho k hk; simp; omega
  · simp; omega
theorem AP.grow {wb w W W' : World} {way down : Value} {L : List ByteArray} {nm : ByteArray} (h : AP wb w way L nm down W) (hg : G W W') : AP wb w way L nm down W' :=
  ⟨owns_grow h.own hg, owns_grow h.own' hg, grownBy_trans h.grown (grownBy_of_G hg _), h.bel.trans (hg.mono h.bel.size), h.behind⟩
theorem AP.called {wb w W W' : World} {way down : Value} {L : List ByteArray} {nm : ByteArray} (h : AP wb w way L nm down W) (hg : W.grownBy W' down.ownBlock) (ho : OwnsT W' wb.heap.size down (L ++ [nm])) :
    OwnsT W' wb.heap.size way L ∧ w.grownBy W' way.ownBlock ∧ Below wb.heap.size wb W' := by
  obtain ⟨W0, hb, hk, hs⟩ := h.behind
  refine ⟨owns_shorter h.own hb hk hg ho, grownBy_new h.grown hg ?_, h.bel.trans (grown_below hg h.own' h.bel.size)⟩
  rcases hb.block with e | e
  · exact .inl e
  · exact .inr ⟨_, e, hs⟩
theorem fault_any (wb : World) : ∀ (Z : Nat) (ks : F), ks.size < Z → FaultOk wb ks := by
  intro Z
  induction Z with
  | zero => intro f h; omega
  | succ Z ih =>
    intro ks hZ g o nm v m kv hl hS hok hoks w way L hb hown hL
    obtain ⟨a, cap, rfl, _⟩ := hS.form
    obtain ⟨N, hN⟩ : ∃ N, ks.len = N := ⟨_, rfl⟩
    have hN2 : N ≤ 9223372036854775807 := by have := ks.len_le_size; unfold F.okL at hok; omega
    obtain ⟨ao, wcap, hway, hwc⟩ := (OwnsT.has hown).form
    obtain ⟨kb, hkb⟩ : ∃ b, decide (0 < N) = b := ⟨_, rfl⟩
    obtain ⟨E0, hE0⟩ : ∃ E, ownE v m kb = E := ⟨_, rfl⟩
    have CO := hid (fun (W : World) => (by have := ownFault_any v m kb (vx v).toArray (mx m).toArray rfl rfl W; rw [hE0] at this; exact this : Calls Tryz.prog 59 #[.agg (vx v).toArray, .agg (mx m).toArray, .bool kb] W fun e w' => e = .returned (.int .i64 E0) ∧ G W w'))
    have HE : Hid (ownE v m (decide (0 < ks.len)) = E0) := by show _ = _; rw [hN, hkb]; exact hE0
    clear hE0
    have c40 := (lies_kids hl)
    have HLB : Hid (Lies wb g o (nc nm v m (.slice a ks.len cap)) ∧ HasS wb (.slice a ks.len cap) ks ∧ ks.okL ∧ ks.ok ∧ ks.len = N ∧ ks.size < Z + 1) := ⟨hl, hS, hok, hoks, hN, hZ⟩
    rw [hN] at c40
    have HOW : Hid (OwnsT w wb.heap.size way L) := hown
    have HB : Hid (Below wb.heap.size wb w) := hb
    have HIH : Hid (∀ ks : F, ks.size < Z → FaultOk wb ks) := ih
    have HL0 : Hid (Lies w g (o + 1) (vx v).toArray ∧ Lies w g (o + 36) (mx m).toArray) := ⟨(lies_val hl).below hb, (lies_marks hl).below hb⟩
    have w40 := cell_below hb c40
    clear hl hS hown hb ih hN hok hoks hZ c40
    go_enter Tryz.func28, Tryz.ntmps28
    go_upto_region 1 with fail
    refine wp_region_G ?_
    have d40 := (G.drew w).cell w40
    have L1 : Hid (Lies w.drew g (o + 1) (vx v).toArray ∧ Lies w.drew g (o + 36) (mx m).toArray) := ⟨(G.drew w).lies HL0.out.1, (G.drew w).lies HL0.out.2⟩
    have HD : Hid (G w w.drew) := G.drew w
    generalize w.drew = w2 at *
    refine takeG 0 12 (.pointer (some ⟨g, o, none⟩)) rfl rfl (by kernel_rfl) (by kernel_rfl) (by kernel_rfl) (fun _ _ _ h => h) (by kernel_rfl) (fun wz hz => ?_) ?_
    · rfl
    try simp only [Act.put, List.setIfInBounds_toArray, List.set_cons_zero, List.set_cons_succ]
    refine takeG 1 13 (.pointer (some ⟨g, o, none⟩)) rfl rfl (by kernel_rfl) (by kernel_rfl) (by kernel_rfl) (fun _ _ _ h => h) (by kernel_rfl) (fun wz hz => ?_) ?_
    · go_simp
    try simp only [Act.put, List.setIfInBounds_toArray, List.set_cons_zero, List.set_cons_succ]
    refine takeG 2 14 (.pointer (some ⟨g, o + 1, none⟩)) rfl rfl (by kernel_rfl) (by kernel_rfl) (by kernel_rfl) (fun _ _ _ h => h) (by kernel_rfl) (fun wz hz => ?_) ?_
    · go_simp
    try simp only [Act.put, List.setIfInBounds_toArray, List.set_cons_zero, List.set_cons_succ]
    refine takeG 3 15 (.agg (vx v).toArray) rfl rfl (by kernel_rfl) (by kernel_rfl) (by kernel_rfl) (fun _ _ _ h => h) (by kernel_rfl) (fun wz hz => ?_) ?_
    · exact exec_load24 _ rfl g (o + 1) rfl _ (by simp [vx_len]) (hz.lies L1.out.1)
    try simp only [Act.put, List.setIfInBounds_toArray, List.set_cons_zero, List.set_cons_succ]
    refine takeG 4 16 (.pointer (some ⟨g, o, none⟩)) rfl rfl (by kernel_rfl) (by kernel_rfl) (by kernel_rfl) (fun _ _ _ h => h) (by kernel_rfl) (fun wz hz => ?_) ?_
    · rfl
    try simp only [Act.put, List.setIfInBounds_toArray, List.set_cons_zero, List.set_cons_succ]
    refine takeG 5 17 (.pointer (some ⟨g, o, none⟩)) rfl rfl (by kernel_rfl) (by kernel_rfl) (by kernel_rfl) (fun _ _ _ h => h) (by kernel_rfl) (fun wz hz => ?_) ?_
    · go_simp
    try simp only [Act.put, List.setIfInBounds_toArray, List.set_cons_zero, List.set_cons_succ]
    refine takeG 6 18 (.pointer (some ⟨g, o + 36, none⟩)) rfl rfl (by kernel_rfl) (by kernel_rfl) (by kernel_rfl) (fun _ _ _ h => h) (by kernel_rfl) (fun wz hz => ?_) ?_
    · go_simp
    try simp only [Act.put, List.setIfInBounds_toArray, List.set_cons_zero, List.set_cons_succ]
    refine takeG 7 19 (.agg (mx m).toArray) rfl rfl (by kernel_rfl) (by kernel_rfl) (by kernel_rfl) (fun _ _ _ h => h) (by kernel_rfl) (fun wz hz => ?_) ?_
    · exact exec_load27 _ rfl g (o + 36) rfl _ (by simp [mx_len]) (hz.lies L1.out.2)
    try simp only [Act.put, List.setIfInBounds_toArray, List.set_cons_zero, List.set_cons_succ]
    refine takeG 8 20 (.pointer (some ⟨g, o, none⟩)) rfl rfl (by kernel_rfl) (by kernel_rfl) (by kernel_rfl) (fun _ _ _ h => h) (by kernel_rfl) (fun wz hz => ?_) ?_
    · rfl
    try simp only [Act.put, List.setIfInBounds_toArray, List.set_cons_zero, List.set_cons_succ]
    refine takeG 9 21 (.pointer (some ⟨g, o, none⟩)) rfl rfl (by kernel_rfl) (by kernel_rfl) (by kernel_rfl) (fun _ _ _ h => h) (by kernel_rfl) (fun wz hz => ?_) ?_
    · go_simp
    try simp only [Act.put, List.setIfInBounds_toArray, List.set_cons_zero, List.set_cons_succ]
    refine takeG 10 22 (.pointer (some ⟨g, o + 40, none⟩)) rfl rfl (by kernel_rfl) (by kernel_rfl) (by kernel_rfl) (fun _ _ _ h => h) (by kernel_rfl) (fun wz hz => ?_) ?_
    · go_simp
    try simp only [Act.put, List.setIfInBounds_toArray, List.set_cons_zero, List.set_cons_succ]
    refine takeG 11 23 (.slice a N cap) rfl rfl (by kernel_rfl) (by kernel_rfl) (by kernel_rfl) (fun _ _ _ h => h) (by kernel_rfl) (fun wz hz => ?_) ?_
    · have y0 := hz.cell d40; go_simp
    try simp only [Act.put, List.setIfInBounds_toArray, List.set_cons_zero, List.set_cons_succ]
    refine takeG 12 24 (.int .i64 N) rfl rfl (by kernel_rfl) (by kernel_rfl) (by kernel_rfl) (fun _ _ _ h => h) (by kernel_rfl) (fun wz hz => ?_) ?_
    · go_simp
    try simp only [Act.put, List.setIfInBounds_toArray, List.set_cons_zero, List.set_cons_succ]
    refine takeG 13 25 (.bool kb) rfl rfl (by kernel_rfl) (by kernel_rfl) (by kernel_rfl) (fun _ _ _ h => h) (by kernel_rfl) (fun wz hz => ?_) ?_
    · go_simp
    try simp only [Act.put, List.setIfInBounds_toArray, List.set_cons_zero, List.set_cons_succ]
    refine callG 14 26 (.int .i64 E0) 59 #[.agg (vx v).toArray, .agg (mx m).toArray, .bool kb] rfl rfl (by kernel_rfl) (by kernel_rfl) (by kernel_rfl) (fun _ _ _ h => h) (by kernel_rfl) (fun wz => by go_simp) (fun wz hz => ?_) ?_
    · exact CO.out wz
    try simp only [Act.put, List.setIfInBounds_toArray, List.set_cons_zero, List.set_cons_succ]
    refine takeG 15 6 (.int .i64 E0) rfl rfl (by kernel_rfl) (by kernel_rfl) (by kernel_rfl) (fun _ _ _ h => h) (by kernel_rfl) (fun wz hz => ?_) ?_
    · rfl
    try simp only [Act.put, List.setIfInBounds_toArray, List.set_cons_zero, List.set_cons_succ]
    refine doneG (by kernel_rfl) (fun w3 hg3 => ?_)
    have HG3 : Hid (G w w3) := HD.out.trans hg3
    clear hg3 HD L1 HL0 CO d40
    by_cases he : E0 = 0
    · subst he
      have e40 := HG3.out.cell w40
      have HFN : Hid (faultN v m ks L = faultF ks none L) := by show _ = _; rw [faultN, HE.out, if_neg (by simp)]
      obtain ⟨i0, hi, hz0, hz1, hz2⟩ := info_parts Tryz.info9
      obtain ⟨n, hn⟩ : ∃ n, L.length = n := ⟨_, rfl⟩
      have HLn : Hid (L.length = n) := hn
      rw [hn] at hway hL hwc
      clear hn
      have HLI : Hid (LI wb w way L ks w3 0) := ⟨owns_grow HOW.out HG3.out, grownBy_of_G HG3.out _, HB.out.trans (HG3.out.mono HB.out.size), none, .inl ⟨rfl, rfl⟩, by rw [F.drop_zero]⟩
      have HOB : Hid (∀ k, way.ownBlock = some k → k < w.heap.size) := fun k hk => (World.ownsRow.lt HOW.out k hk).2
      have HWF : Hid (way = .slice ao n wcap) := hway
      rw [hway]
      clear hway
      go_wp2_with fail
      go_loopw [36] (fun i wr => ∃ k : Nat, i = .int .i64 k ∧ k ≤ N ∧ wr.cell? ⟨g, o + 40, none⟩ = some (.slice a N cap) ∧ Hid (LI wb w way L ks wr k)) (fun i _ => N - iOf i)
      case atStart => exact ⟨0, rfl, Nat.zero_le _, e40, HLI.out⟩
      case round =>
        clear e40 HLI
        obtain ⟨k, rfl, hk, q40, HI⟩ := hrel
        by_cases hlt : k < N
        · have hltI : (k : Int) < (N : Int) := by omega
          obtain ⟨g2, o2, cp, nm1, v1, m1, ks1, c1, hv1, hd1, hN1, hc1⟩ := HLB.out.2.1.at (k := k) (by rw [HLB.out.2.2.2.2.1]; exact hlt)
          obtain rfl : a = some ⟨g2, o2, none⟩ := by injection hv1
          clear hv1
          obtain ⟨kv1, rfl, hS1⟩ := hN1
          obtain ⟨prev, hprev, hfe⟩ := HI.out.2.2.2
          have hoks1 : (ks.drop k).ok := F.ok_drop HLB.out.2.2.2.1
          rw [hd1] at hoks1
          have hks1 := F.kids_size hd1
          have hpl : Hid (∀ W, Below wb.heap.size wb W → W.cell? ⟨g2, o2 + k * 41, none⟩ = some (.string nm1)) := fun W hW => cell_below hW (hc1 0 _ (nc_name ..))
          have hpv : Hid (∀ W, Below wb.heap.size wb W → (k = 0 ∧ prev = none) ∨ ∃ j p, k = j + 1 ∧ prev = some p ∧ W.cell? ⟨g2, o2 + j * 41, none⟩ = some (.string p)) := by
            intro W hW
            rcases hprev with h | ⟨j, nm', v', m', k', r', rfl, rfl, hj⟩
            · exact .inl h
            · obtain ⟨g3, o3, cp3, nm3, v3, m3, ks3, c3, hv3, hd3, ⟨kv3, rfl, _⟩, hc3⟩ := HLB.out.2.1.at (k := j) (by rw [HLB.out.2.2.2.2.1]; omega)
              injection hv3 with e1
              injection e1 with e1
              injection e1 with e1 e2
              subst e1 e2
              rw [hj] at hd3
              injection hd3 with e3
              subst e3
              exact .inr ⟨j, _, rfl, rfl, cell_below hW (hc3 0 _ (nc_name ..))⟩
          have n1 := hpl.out wr HI.out.2.2.1
          have HP : Hid (faultF ks none L = faultF (F.cons nm1 v1 m1 ks1 (ks.drop (k + 1))) prev L) := by show _ = _; rw [hfe, hd1]
          have HNX : Hid (PrevIs ks (k + 1) (some nm1)) := .inr ⟨k, nm1, v1, m1, ks1, _, rfl, rfl, hd1⟩
          have HS1 : Hid (Lies wb g2 (o2 + k * 41) (nc nm1 v1 m1 kv1) ∧ HasS wb kv1 ks1 ∧ ks1.okL ∧ ks1.ok ∧ nm1.size ≤ 9223372036854775807 ∧ ks1.size < Z) := ⟨hc1, hS1, by have := HLB.out.2.2.1; unfold F.okL at *; omega, hoks1.2.2.1, hoks1.1, by have := HLB.out.2.2.2.2.2; omega⟩
          have hown := HI.out.1
          have hlo : wb.heap.size ≤ wr.heap.size := HI.out.2.2.1.size
          have OWA : Hid ((wr.alloc (.cells #[.string nm1] 9)).ownsRow wb.heap.size 9 1 (.slice ao n wcap) n (L.map Value.string)) := by
            have := World.ownsRow.alloc (show wr.ownsRow wb.heap.size 9 1 way L.length (L.map Value.string) from hown) (.cells #[.string nm1] 9)
            rw [HLn.out, HWF.out] at this
            exact this
          have HLO : Hid (wb.heap.size ≤ wr.heap.size) := hlo
          clear hprev hfe hoks1 hks1 hd1 hc1 hS1 hown hlo
          go_upto_region 8 with (at_builtin; refine wpList_append_both rfl _ _ 56 rfl wb.heap.size 9 i0 (.string ⟨#[]⟩) 1 16 Tryz.underlying56 hi hz0 hz1 hz2 rfl (by decide) (.slice ao n wcap) n (L.map Value.string) rfl OWA.out ⟨wr.heap.size, 0, none⟩ 1 1 [.string nm1] rfl rfl one_new (by simp [Value.oneCell']) (by unfold maxLen; omega) (by omega) (by have := HLO.out; simp; omega) (by decide) ?_; intro down w4 hd4 hg4 hbh4 hw4; obtain ⟨g', cap', rfl⟩ := row_form hd4)
          have R4 : Hid (AP wb w way L nm1 (.slice (some ⟨g', 0, none⟩) (n + 1) cap') w4) := AP.made HI.out (by rw [HLn.out]; exact hd4) (by rw [HWF.out]; exact hg4) (by rw [HWF.out]; exact hbh4) (by rw [HWF.out, HLn.out]; exact hw4) HOB.out
          clear hd4 hg4 hbh4 hw4 OWA n1
          have CP := placeFault_any (some ⟨g2, o2, none⟩) N cap k (n + 1) g2 o2 nm1 prev w4 rfl hlt hN2 (by omega) HS1.out.2.2.2.2.1 (hpl.out w4 R4.out.bel) (hpv.out w4 R4.out.bel)
          obtain ⟨pe, hpe⟩ : ∃ e, placeE prev nm1 (n + 1) = e := ⟨_, rfl⟩
          rw [hpe] at CP
          have HPE : Hid (placeE prev nm1 (L.length + 1) = pe) := by rw [HLn.out]; exact hpe
          have x40 := cell_below R4.out.bel (lies_kids HLB.out.1)
          rw [HLB.out.2.2.2.2.1] at x40
          by_cases hp0 : pe = 0
          · subst hp0
            have hn64 : n + 1 ≤ 64 := by
              unfold placeE at hpe
              by_cases h : 64 < n + 1
              · rw [if_pos h] at hpe; cases hpe
              · omega
            clear hpe
            have CI := hid (fun (W : World) (hb : Below wb.heap.size wb W) (ho : OwnsT W wb.heap.size (.slice (some ⟨g', 0, none⟩) (n + 1) cap') (L ++ [nm1])) => HIH.out ks1 HS1.out.2.2.2.2.2 g2 (o2 + k * 41) nm1 v1 m1 kv1 HS1.out.1 HS1.out.2.1 HS1.out.2.2.1 HS1.out.2.2.2.1 W _ (L ++ [nm1]) hb ho (by rw [List.length_append, HLn.out]; simpa using hn64))
            go_wp2_with (first
              | (go_at_call 60; refine CP.mono ?_; rintro e w5 ⟨rfl, g5⟩; have R5 : Hid (AP wb w way L nm1 (.slice (some ⟨g', 0, none⟩) (n + 1) cap') w5) := R4.out.grow g5; have y40 := g5.cell x40; clear CP R4 g5 x40)
              | (go_at_call 28; refine (CI.out _ R5.out.bel R5.out.own').mono ?_; rintro e w6 ⟨u, er, rfl, h6⟩; have R6 := hid h6; clear h6 CI))
            case roundEnd =>
              rename_i h0
              have he0 : er = 0 := by simpa using h0
              obtain ⟨hw6, hgr6, hb6⟩ := R5.out.called R6.out.1 R6.out.2.1
              have hfr := R6.out.2.2
              have hnone : faultN v1 m1 ks1 (L ++ [nm1]) = none := by
                cases hx : faultN v1 m1 ks1 (L ++ [nm1]) with
                | none => rfl
                | some x => rw [hx] at hfr; exact absurd (hfr.1.symm.trans he0) hfr.2.1
              have hstep : faultF ks none L = faultF (ks.drop (k + 1)) (some nm1) L := by
                rw [HP.out, faultF_cons, HPE.out, if_neg (by simp), hnone]
              have z40 := cell_below hb6 (lies_kids HLB.out.1)
              rw [HLB.out.2.2.2.2.1] at z40
              go_roundw
              case rel => exact ⟨k + 1, by go_num, by omega, z40, hw6, hgr6, hb6, some nm1, HNX.out, hstep⟩
              case measure => simp; omega
            rename_i h0
            have he0 : er ≠ 0 := by simpa using h0
            clear h0
            obtain ⟨hw6, hgr6, hb6⟩ := R5.out.called R6.out.1 R6.out.2.1
            have hfr := R6.out.2.2
            have hsome : faultN v m ks L = faultN v1 m1 ks1 (L ++ [nm1]) := by
              rw [HFN.out, HP.out, faultF_cons, HPE.out, if_neg (by simp)]
              cases hx : faultN v1 m1 ks1 (L ++ [nm1]) with
              | none => rw [hx] at hfr; exact absurd hfr.1 he0
              | some x => rfl
            go_ret2
            exact ⟨u, er, rfl, hgr6, hw6, by rw [hsome]; exact hfr⟩
          · have hp0' : (pe != 0) = true := by simpa using hp0
            have HS0 : Hid (faultN v m ks L = some (L ++ [nm1], pe)) := by show _ = _; rw [HFN.out, HP.out, faultF_cons, HPE.out, if_pos hp0]
            have HP0 : Hid (pe ≠ 0) := hp0
            clear hpe hp0
            go_wp2_with (go_at_call 60; refine CP.mono ?_; rintro e w5 ⟨rfl, g5⟩; have R5 : Hid (AP wb w way L nm1 (.slice (some ⟨g', 0, none⟩) (n + 1) cap') w5) := R4.out.grow g5; clear CP R4 g5 x40)
            go_ret2
            exact ⟨_, pe, rfl, R5.out.grown, R5.out.own, by rw [HS0.out]; exact ⟨rfl, HP0.out, R5.out.own'.has⟩⟩
        · have hltI : ¬ (k : Int) < (N : Int) := by omega
          have HS0 : Hid (faultN v m ks L = none) := by
            obtain ⟨prev, _, hfe⟩ := HI.out.2.2.2
            show _ = _
            rw [HFN.out, hfe, F.drop_all ks k (by rw [HLB.out.2.2.2.2.1]; omega)]
            rfl
          go_wp2_with fail
          go_ret2
          exact ⟨_, 0, rfl, HI.out.2.1, HI.out.1, by rw [HS0.out]; exact ⟨rfl, rfl⟩⟩
    · have HF : Hid (faultN v m ks L = some (L, E0)) := by show _ = _; rw [faultN, HE.out, if_pos he]
      have he' : ¬ E0 = 0 := he
      subst hway
      go_wp2_with fail
      go_ret2
      refine ⟨_, E0, rfl, grownBy_of_G HG3.out _, owns_grow HOW.out HG3.out, ?_⟩
      rw [HF.out]
      exact ⟨rfl, he, (owns_grow HOW.out HG3.out).has⟩
end Go.Proofs.YtbjjbgaomoihaaaGreatDoor
