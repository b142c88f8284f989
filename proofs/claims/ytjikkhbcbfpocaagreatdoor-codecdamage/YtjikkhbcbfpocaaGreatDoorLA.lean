import Derived.Test.YtjikkhbcbfpocaaGreatDoorDX
set_option maxRecDepth 100000
set_option maxHeartbeats 1600000
namespace Go.Proofs.YtjikkhbcbfpocaaGreatDoor
open Go.RowKit Go.Shelf
attribute [local go_sem] Oper.semAt_some
theorem cP (va vb : Value) (a b : List Nat) (w : World) (ha : Su.Has w va a) (hb : Su.Has w vb b) (hal : a.length ≤ 16777216) (hbl : b.length ≤ 16777216) :
  Calls Tryz.prog 20 #[va, vb] w fun x w' => x = .returned (.bool (decide (a = b))) ∧ ∃ n, w' = w.drewN n :=
 (Wi.rM va vb (up a) (up b) w (zt.2 ha) (zt.2 hb) (by rw [qU]; exact hal) (by rw [qU]; exact hbl)).mono fun e w' ⟨h1, h2⟩ => ⟨by rw [h1, show decide (up a = up b) = decide (a = b) from decide_eq_decide.2 ⟨fun q => eK q, fun q => by rw [q]⟩], h2⟩
theorem assert72 (x : Value) (w : World) : (Instr.typeAssert (.iface 72 x) 41 72 true).run Tryz.prog w = .ok (.tuple #[x, .bool true]) w := by kernel_rfl
def fc (p : Int) (s : ByteArray) (e : Int) : Array Value := #[.int .i64 p, .string s, .int .i64 e]
theorem siz49 : (Tryz.prog.info? 49).map (·.size) = some 3 := by kernel_rfl
theorem eT (tmps : Array Value) (w : World) (g : Nat) (cs : Array Value) (hp : tmps.getD 2 undef = .pointer (some ⟨g, 0, none⟩)) (hg : w.heap[g]? = some (.cells cs 49 (0, 0))) (hi : cs.size = 3) :
  (results Tryz.f17 tmps).run Tryz.prog w = .ok (.tuple #[.agg cs, tmps.getD 3 undef]) w := by
 have hp' : tmps[2]?.getD undef = .pointer (some ⟨g, 0, none⟩) := by simpa using hp
 have hr : Tryz.f17.results = #[.cell 2 49, .tmp 3] := rfl
 simp [results, hp', asAddr, run_loadVar_row w g 49 49 cs (0, 0) _ hg Tryz.underlying49 rfl (by rw [siz49, hi])]
theorem my (fb : Nat) (p e : Int) (s : ByteArray) (w : World) (h : w.heap[fb]? = some (.cells (fc p s e) 93 (0, 0))) (he : e ≠ 0) :
  Calls Tryz.prog 17 #[.iface 72 (.pointer (some ⟨fb, 0, none⟩))] w fun x w' => x = .returned (.tuple #[.agg (fc p s e), .bool true]) ∧ G w w' := by
 have hta := assert72
 have heb : (e == 0) = false := by simpa using he
 have hlt : fb < w.heap.size := (gS h)
 have hne : fb ≠ w.heap.size := by omega
 have h' : ∀ o : Obj, (w.alloc o).heap[fb]? = some (.cells (fc p s e) 93 (0, 0)) := fun o => (Below.heap_alloc _ _ _ hlt).trans h
 have h0 : (w.alloc (.cells #[.int .i64 0, .string ⟨#[]⟩, .int .i64 0] 49)).cell? ⟨fb, 0, none⟩ = some (.int .i64 p) := by simp [World.cell?, h', fc]
 have h1 : (w.alloc (.cells #[.int .i64 0, .string ⟨#[]⟩, .int .i64 0] 49)).cell? ⟨fb, 1, none⟩ = some (.string s) := by simp [World.cell?, h', fc]
 have h2 : (w.alloc (.cells #[.int .i64 0, .string ⟨#[]⟩, .int .i64 0] 49)).cell? ⟨fb, 2, none⟩ = some (.int .i64 e) := by simp [World.cell?, h', fc]
 clear h h' he
 go_enter Tryz.func17, Tryz.ntmps17
 go_wp2
 refine wp_region_still_tail 13 Wi.Tryz.mixed (by kernel_rfl) ?_
 change wpStill _ _ (World.drew _) (fun a' => wpList _ _ _ _ a' (World.drew _)) _ _
 simp only [List.take_succ_cons, List.take_zero, List.drop_succ_cons, List.drop_zero]
 repeat still_step
 refine wpStill_nil ?_
 go_wp2
 refine bodyPost_ret (eT _ _ w.heap.size (fc p s e) rfl (World.alloc_heap_new w _) rfl) rfl ⟨rfl, (G.alloc _ _).trans (G.drew _)⟩
end Go.Proofs.YtjikkhbcbfpocaaGreatDoor
