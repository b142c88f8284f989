/-
  THE ROOM's Node, a new Room; what spoil leaves of a tree.
-/
import Derived.Test.YtjkbhfkeagfhbaaHold
namespace Go.Proofs.Ytjkbhfkeagfhbaa
open Go.RowKit

set_option maxRecDepth 100000 in
set_option maxHeartbeats 1000000 in
theorem roomNodes_any (w0 : World) (R : Nat) (hR0 : w0.heap.size = R) (f : F) (vl : Value) (w : World) (s : Sg) (hS : HasS w0 vl f) (hb : Below R w0 w) (hm : RM w R s) (hw : f.weight ≤ 20000) (hn : s.ls.length + f.size ≤ 60000) :
    Calls Try.prog 33 #[.pointer (some ⟨R, 0, none⟩), vl] w fun e w' => ∃ kv s', e = .returned kv ∧ LayTo R w s w' s' kv f := by
  have C70 := lay_any w0 R hR0 (f.size + 1) f (Nat.lt_succ_self _) vl 40 w s hS hb hm (by omega) (by omega) hw hn
  obtain ⟨a, cap, rfl, _⟩ := hS.form
  clear hS hb hm hw hn
  go_enter Try.func33, Try.ntmps33
  go_wp2_with fail
  refine C70.mono ?_
  rintro e w1 ⟨kv, s', rfl, h⟩
  have HX := hid h
  obtain ⟨a1, cap1, rfl, _⟩ := h.2.2.2
  clear h C70
  go_wp2
  go_ret
  exact ⟨_, _, rfl, HX.out⟩
set_option maxRecDepth 100000 in
set_option maxHeartbeats 2000000 in
theorem roomNode_any (w0 : World) (R : Nat) (hR0 : w0.heap.size = R) (ks : F) (c : Array Value) (nm : ByteArray) (v : Vd) (m : Md) (w : World) (s : Sg) (hN : HasN w0 c nm v m ks) (hb : Below R w0 w) (hm : RM w R s) (hw : ks.weight ≤ 20000) (hn : s.ls.length + ks.size ≤ 60000) :
    Calls Try.prog 7 #[.pointer (some ⟨R, 0, none⟩), .agg c] w fun e w' => ∃ kv s', e = .returned (.agg (nc nm v m kv)) ∧ LayTo R w s w' s' kv ks := by
  obtain ⟨kv0, hc, hS⟩ := hN
  have hsz : c.size = 41 := by rw [hc]; exact nc_size ..
  have hgB : Below w.heap.size w ((w.alloc (.cells c 30)).alloc (.cells z30 30)) := (G.alloc _ _).trans (G.alloc _ _)
  have hRl : R < w.heap.size := hm.lt (.inl (.inl rfl))
  have hV0 := (Var.new w c).grow (G.alloc (w.alloc (.cells c 30)) (.cells z30 30))
  have hV1 := Var.new (w.alloc (.cells c 30)) z30
  rw [World.size_alloc] at hV1
  have C70 := roomNodes_any w0 R hR0 ks kv0 _ s hS (hb.trans (hgB.mono (by omega))) (hm.grow hgB) hw hn
  obtain ⟨a, cap, rfl, _⟩ := hS.form
  have c40 := lies_cell hV0.lies 40 (.slice a ks.len cap) (by rw [hc]; exact nc_kids ..)
  have HX := hid (⟨hgB, hm, hV0, hV1, hc, by simp⟩ : Below w.heap.size w ((w.alloc (.cells c 30)).alloc (.cells z30 30)) ∧ RM w R s ∧ Var ((w.alloc (.cells c 30)).alloc (.cells z30 30)) w.heap.size c ∧ Var ((w.alloc (.cells c 30)).alloc (.cells z30 30)) (w.heap.size + 1) z30 ∧ c = nc nm v m (.slice a ks.len cap) ∧ ((w.alloc (.cells c 30)).alloc (.cells z30 30)).heap.size = w.heap.size + 2)
  clear hgB hm hV0 hV1 hc hS hb hw hn
  go_enter Try.func7, Try.ntmps7
  go_upto_region 1 with (with_reducible refine wpList_execW (.pointer (some ⟨(w.alloc (.cells c 30)).heap.size, 0, none⟩)) ((w.alloc (.cells c 30)).alloc (.cells z30 30)) ?_ ?_ ?_; exact exec_alloc30 rfl _; kernel_rfl)
  try simp only [Act.put, List.setIfInBounds_toArray, List.set_cons_zero, List.set_cons_succ, World.size_alloc]
  generalize (w.alloc (.cells c 30)).alloc (.cells z30 30) = w2 at *
  obtain ⟨B, hB⟩ : ∃ B, w.heap.size = B := ⟨_, rfl⟩
  rw [hB] at c40 HX ⊢
  have HB := hid hB
  clear hB
  go_wp2_with (first
    | (go_at_call 33; refine C70.mono ?_; rintro e w3 ⟨kv, s', rfl, hL⟩; have HL := hid hL; obtain ⟨a3, cap3, rfl, hl3⟩ := hL.2.2.2; clear hL C70; have hV0 : Var w3 B c := (HL.out.2.1.block B (by have := HX.out.2.2.2.2.2; omega) (fun e => by have := HX.out.2.1.lt (.inl e); have := HB.out; omega)).trans HX.out.2.2.1; have hfz : w3.frozen? ⟨B, 40, none⟩ = false := var_frozen hV0 40; have q40 := lies_cell hV0.lies 40 (.slice a ks.len cap) (by rw [HX.out.2.2.2.2.1]; exact nc_kids ..); have hVS : Var (w3.setCell ⟨B, 40, none⟩ (.slice a3 ks.len cap3)) B (nc nm v m (.slice a3 ks.len cap3)) := by { have := hV0.setCell 40 (.slice a3 ks.len cap3); rw [HX.out.2.2.2.2.1, nc_kset] at this; exact this }; have hVT : Var (w3.setCell ⟨B, 40, none⟩ (.slice a3 ks.len cap3)) (B + 1) z30 := (Below.heap_setCell _ _ _ _ (by show B + 1 ≠ B; omega)).trans ((HL.out.2.1.block (B + 1) (by have := HX.out.2.2.2.2.2; omega) (fun e => by have := HX.out.2.1.lt (.inl e); have := HB.out; omega)).trans HX.out.2.2.2.1); have HV := hid (⟨hVS, hVT⟩ : _ ∧ _); clear hVS hVT hV0 hl3)
    | (with_reducible refine wpList_exec (.agg (nc nm v m (.slice a3 ks.len cap3))) ?_ ?_ ?_; exact exec_load30 _ rfl B 0 rfl _ (nc_size ..) HV.out.1.lies; kernel_rfl)
    | (with_reducible refine wpList_skipW ((w3.setCell ⟨B, 40, none⟩ (.slice a3 ks.len cap3)).setRow (B + 1) (nc nm v m (.slice a3 ks.len cap3))) ?_ ?_ ?_; exact exec_store30 _ _ rfl (B + 1) _ z30 rfl rfl _ HV.out.2 (nc_size ..) z30_size (nc_one _ _ _ _ rfl); kernel_rfl))
  refine bodyPost_ret (results_cell_row (P := Try.prog) (p := 4) (ty := 30) rfl _ _ (B + 1) 30 (nc nm v m (.slice a3 ks.len cap3)) (0, 0) _ rfl HV.out.2.set under30 rfl (by rw [size30, nc_size])) rfl ?_
  refine ⟨_, s', rfl, HL.out.later HX.out.2.1 (by rw [HB.out]; exact HX.out.1) (fun b hb => ?_) ⟨rfl, rfl, rfl, by simp, fun b hb => ?_⟩⟩
  · have h1 := HX.out.2.2.2.2.2
    have h2 := HB.out
    exact (setRow_other _ (B + 1) b _ (by omega)).trans (Below.heap_setCell _ _ _ b (by show b ≠ B; omega))
  · have h2 := HB.out
    exact (setRow_other _ (B + 1) b _ (by omega)).trans (Below.heap_setCell _ _ _ b (by show b ≠ B; omega))

/-- the block of a new Room -/
def roomObj : Obj := .cells #[Value.slice none 0 0, Value.slice none 0 0, Value.slice none 0 0, Value.slice none 0 0, Value.slice none 0 0, Value.slice none 0 0, Value.slice none 0 0, Value.slice none 0 0, Value.slice none 0 0, Value.slice none 0 0, Value.slice none 0 0, Value.slice none 0 0, Value.slice none 0 0, Value.slice none 0 0, Value.slice none 0 0, Value.slice none 0 0, Value.slice none 0 0, Value.slice none 0 0, Value.slice none 0 0, Value.slice none 0 0, Value.slice none 0 0, Value.slice none 0 0, Value.slice none 0 0, Value.slice none 0 0, Value.slice none 0 0, Value.slice none 0 0] 48
def sg0 : Sg := ⟨.slice none 0 0, .slice none 0 0, []⟩
theorem room_new (w : World) : RM (w.alloc roomObj) w.heap.size sg0 := by
  have h := World.alloc_heap_new w roomObj
  have hc : ∀ i, i < 26 → (w.alloc roomObj).cell? ⟨w.heap.size, i, none⟩ = some (.slice none 0 0) := by
    intro i hi
    have e : roomObj = .cells (List.replicate 26 (Value.slice none 0 0)).toArray 48 := rfl
    rw [e] at h
    simp only [World.cell?, e, h]
    show (List.replicate 26 (Value.slice none 0 0)).toArray[i]? = _
    rw [List.getElem?_toArray, List.getElem?_replicate, if_pos hi]
  refine ⟨fun i hi _ _ => hc i hi, hc 22 (by decide), hc 23 (by decide), fun o => ?_, World.ownsRow_nil _ _ _ _, World.ownsRow_nil _ _ _ _, fun b hb => by simp [sg0, Value.ownBlock] at hb, fun e he => by simp [sg0] at he, fun e he => by simp [sg0] at he, fun e he => by simp [sg0] at he⟩
  simp only [World.frozen?, h]
  simp [roomObj]

/-- a block that opens as a row of things does -/
def Rw (w : World) (b : Nat) : Prop := ∃ s i, w.cell? ⟨b, 0, none⟩ = some (.string s) ∧ w.cell? ⟨b, 1, none⟩ = some (.int .i64 i)
theorem rw_of_lies {w : World} {g : Nat} {nm : ByteArray} {v : Vd} {m : Md} {kv : Value} (h : Lies w g 0 (nc nm v m kv)) : Rw w g := ⟨nm, v.kind, lies_cell h 0 _ (nc_name ..), lies_cell h 1 _ (by simp [nc, vx])⟩
theorem HasRD.rw {w : World} : ∀ {f : F} {S : Nat → Prop} {g o : Nat}, HasRD w f S g o → HasRD w f (fun b => S b ∧ Rw w b) g o
  | .nil, _, _, _, _ => trivial
  | .cons _ _ _ ks _, S, g, o, ⟨S1, S2, a, cap, h1, h2, hc, hl, hk, hr⟩ => by
    refine ⟨fun b => S1 b ∧ Rw w b, fun b => S2 b ∧ Rw w b, a, cap, fun b hb => ⟨⟨(h1 b hb.1).1, hb.2⟩, fun e => (h1 b hb.1).2 e.1⟩, fun b hb => ⟨h2 b hb.1, hb.2⟩, hc, hl, ?_, hr.rw⟩
    rcases hk with hk | ⟨g', ha, hs, hf, h⟩
    · exact .inl hk
    · cases ks with
      | nil => exact .inl rfl
      | cons nm' v' m' ks' r' =>
        have hg : Rw w g' := by obtain ⟨_, _, _, _, _, _, hc', _⟩ := h; exact rw_of_lies hc'
        exact .inr ⟨g', ha, ⟨hs, hg⟩, hf, h.rw.keep (fun b hb => ⟨rfl, ⟨hb.1.1, hb.2⟩, hb.1.2⟩) rfl⟩
theorem HasSD.rw {w : World} {S : Nat → Prop} {v : Value} {f : F} (h : HasSD w S v f) : HasSD w (fun b => S b ∧ Rw w b) v f := by
  obtain ⟨a, cap, hv, hl, h⟩ := h
  refine ⟨a, cap, hv, hl, ?_⟩
  rcases h with hk | ⟨g', ha, hs, hf, h⟩
  · exact .inl hk
  · cases f with
    | nil => exact .inl rfl
    | cons nm' v' m' ks' r' =>
      have hg : Rw w g' := by obtain ⟨_, _, _, _, _, _, hc', _⟩ := h; exact rw_of_lies hc'
      exact .inr ⟨g', ha, ⟨hs, hg⟩, hf, h.rw.keep (fun b hb => ⟨rfl, ⟨hb.1.1, hb.2⟩, hb.1.2⟩) rfl⟩
theorem tc_not {w : World} {p : Nat} {v : Vd} {m : Md} {pk : Value} (h : Lies w p 0 (tc v m pk)) : ¬ Rw w p := fun ⟨s, i, h0, _⟩ => by
  have := lies_cell h 0 (.int .i64 v.kind) (by simp [tc, vx])
  rw [this] at h0; cases h0
theorem kc_not {w : World} {q p : Nat} {nm : ByteArray} {pa pb : Value} {a b d : Nat} (h : Lies w q 0 (kc nm p pa pb a b d)) : ¬ Rw w q := fun ⟨s, i, _, h1⟩ => by
  have := lies_cell h 1 (.pointer (some ⟨p, 0, none⟩)) (by simp [kc])
  rw [this] at h1; cases h1
theorem At.keepR {w w' : World} (hb : ∀ b, ¬ Rw w b → w'.heap[b]? = w.heap[b]?) : ∀ {k : K} {u : Value}, At w k u → At w' k u
  | .nil, _, h => h
  | .node _ _ _ _ _ _ _ _, _, ⟨h1, pk, pa, pb, ⟨h2, h3⟩, h4, h5, h6⟩ => ⟨h1, pk, pa, pb, ⟨h2.sameB (hb _ (kc_not h2)), h3.sameB (hb _ (tc_not h3))⟩, At.keepR hb h4, At.keepR hb h5, At.keepR hb h6⟩
theorem AtT.keepR {w w' : World} (hb : ∀ b, ¬ Rw w b → w'.heap[b]? = w.heap[b]?) {p : Nat} {v : Vd} {m : Md} {k : K} (h : AtT w p v m k) : AtT w' p v m k := by
  obtain ⟨pk, h1, h2⟩ := h
  exact ⟨pk, h1.sameB (hb _ (tc_not h1)), h2.keepR hb⟩
end Go.Proofs.Ytjkbhfkeagfhbaa
