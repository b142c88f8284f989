/-
  Bare by contract.
-/
import Derived.Test.YtjkbhfkeagfhbaaLentF
import Derived.Test.YtjkbhfkeagfhbaaCopyO
import Derived.Test.YtjkbhfkeagfhbaaRoom
import Derived.Test.YtjkbhfkeagfhbaaCells
namespace Go.Proofs.Ytjkbhfkeagfhbaa
open Go.RowKit

def bang : ByteArray := ⟨#[33]⟩
def bangV : Vd := ⟨77, 0, 0, zeros, by simp [zeros]⟩
def bangC : Array Value := nc bang bangV Md.zero (.slice none 0 0)
/-- n things that say nothing -/
def F.bangs : Nat → F
  | 0 => .nil
  | n + 1 => .cons bang bangV Md.zero .nil (F.bangs n)
theorem F.bangs_len : ∀ n, (F.bangs n).len = n
  | 0 => rfl
  | n + 1 => by rw [F.bangs, F.len, F.bangs_len n]
theorem F.bangs_weight : ∀ n, (F.bangs n).weight = 2 * n
  | 0 => rfl
  | n + 1 => by rw [F.bangs, F.weight, F.bangs_weight n, F.weight]; show 1 + 1 + 0 + 2 * n = _; omega
theorem bangs_row {w : World} {g : Nat} : ∀ (n o : Nat), (∀ j, j < n → Lies w g (o + j * 41) bangC) → HasR w (F.bangs n) g o
  | 0, _, _ => trivial
  | n + 1, o, h => ⟨⟨none, 0, by have := h 0 (by omega); rw [Nat.zero_mul, Nat.add_zero] at this; exact this, Nat.le_refl _, .inl rfl⟩, bangs_row n (o + 41) fun j hj => by have := h (j + 1) (by omega); rw [show o + 41 + j * 41 = o + (j + 1) * 41 by omega]; exact this⟩
/-- only blocks of S are changed -/
structure Spl (S : Nat → Prop) (w w' : World) : Prop where
  os : w'.os = w.os
  tape : w'.tape = w.tape
  output : w'.output = w.output
  size : w'.heap.size = w.heap.size
  block : ∀ b, ¬ S b → w'.heap[b]? = w.heap[b]?
theorem Spl.refl (S : Nat → Prop) (w : World) : Spl S w w := ⟨rfl, rfl, rfl, rfl, fun _ _ => rfl⟩
theorem Spl.trans {S S' : Nat → Prop} {a b c : World} (h : Spl S a b) (k : Spl S' b c) (hs : ∀ b, S' b → S b) : Spl S a c :=
  ⟨k.os.trans h.os, k.tape.trans h.tape, k.output.trans h.output, k.size.trans h.size, fun x hx => (k.block x fun e => hx (hs x e)).trans (h.block x hx)⟩
theorem setCells_os (g : Nat) : ∀ (vs : List Value) (o : Nat) (w : World), (w.setCells g o vs).os = w.os ∧ (w.setCells g o vs).tape = w.tape ∧ (w.setCells g o vs).output = w.output ∧ (w.setCells g o vs).heap.size = w.heap.size
  | [], _, _ => ⟨rfl, rfl, rfl, rfl⟩
  | v :: r, o, w => by
    obtain ⟨h1, h2, h3, h4⟩ := setCells_os g r (o + 1) (w.setCell ⟨g, o, none⟩ v)
    exact ⟨h1.trans rfl, h2.trans rfl, h3.trans rfl, h4.trans (by simp [World.setCell])⟩
theorem setCells_blockB (g : Nat) : ∀ (vs : List Value) (o : Nat) (w : World) (b : Nat), b ≠ g → (w.setCells g o vs).heap[b]? = w.heap[b]?
  | [], _, _, _, _ => rfl
  | v :: r, o, w, b, h => (setCells_blockB g r (o + 1) (w.setCell ⟨g, o, none⟩ v) b h).trans (Below.heap_setCell _ _ _ b h)
theorem Spl.store {S : Nat → Prop} (w : World) (g o : Nat) (vs : List Value) (hg : S g) : Spl S w (w.setCells g o vs) := by
  obtain ⟨h1, h2, h3, h4⟩ := setCells_os g vs o w
  exact ⟨h1, h2, h3, h4, fun b hb => setCells_blockB g vs o w b fun e => hb (e ▸ hg)⟩
theorem lies_there {w : World} {g o : Nat} {c : Array Value} (h : Lies w g o c) (hs : c.size = 41) (hf : ∀ j, w.frozen? ⟨g, j, none⟩ = false) : w.there g o 41 := fun j hj => ⟨by rw [h j c[j] (by simp)]; rfl, hf _⟩
theorem lies_in {w : World} {g o : Nat} {c d : Array Value} (h : Lies w g o c) (hs : c.size = 41) (hd : d.size = 41) : Lies (w.setCells g o d.toList) g o d := fun j u hj => by
  have hlt := (Array.getElem?_eq_some_iff.1 hj).1
  have := World.cell?_setCells_in g d.toList o w (fun i hi => by rw [h i (c[i]'(by simp at hi; omega)) (by simp)]; rfl) j (by simpa using hlt)
  rw [this, ← hj]
  simp
theorem lies_out {w : World} {g o o' : Nat} {c : Array Value} {vs : List Value} (h : Lies w g o c) (hs : c.size = 41) (ha : o + 41 ≤ o' ∨ o' + vs.length ≤ o) : Lies (w.setCells g o' vs) g o c := fun j u hj => by
  have hlt := (Array.getElem?_eq_some_iff.1 hj).1
  rw [World.cell?_setCells_out g vs o' w ⟨g, o + j, none⟩ (fun _ _ => by show o + j < o' ∨ o' + vs.length ≤ o + j; omega)]
  exact h j u hj
theorem HasRD.aside {w : World} {g o' : Nat} {vs : List Value} : ∀ {f : F} {S : Nat → Prop} {o : Nat}, HasRD w f S g o → (∀ b, S b → b ≠ g) → o' + vs.length ≤ o → HasRD (w.setCells g o' vs) f S g o
  | .nil, _, _, _, _, _ => trivial
  | .cons _ _ _ _ _, S, o, ⟨S1, S2, a, cap, h1, h2, hc, hl, hk, hr⟩, hg, ho => by
    refine ⟨S1, S2, a, cap, h1, h2, lies_out hc (nc_size ..) (.inr ho), hl, hk.imp id ?_, HasRD.aside hr (fun b hb => hg b (h2 b hb)) (by omega)⟩
    rintro ⟨g', ha, hs, hf, h⟩
    exact ⟨g', ha, hs, fun j => (World.frozen?_setCells g vs o' w _).trans (hf j), h.keep (fun b hb => ⟨setCells_blockB g vs o' w b (hg b (h1 b hb.1).1), hb⟩) (setCells_blockB g vs o' w g' (hg g' (h1 g' hs).1))⟩

/-- a struct of its name and its value -/
theorem build30b (v : Vd) (nm : ByteArray) (w : World) : (Instr.build 30 #[(0, .string nm), (1, .agg (vx v).toArray)]).run Try.prog w = .ok (.agg (nc nm v Md.zero (.slice none 0 0))) w := by
  refine run_build w 30 _ _ ?_
  have hz : ∃ z : List Value, (Try.prog.info? 30).bind (·.zero) = some (.agg (List.toArray (.string ⟨#[]⟩ :: (z ++ (mx Md.zero ++ [.slice none 0 0]))))) ∧ z.length = 35 := ⟨vx Vd.zero, by kernel_rfl, by kernel_rfl⟩
  obtain ⟨z, hz, hl⟩ := hz
  have hp : (Try.prog.fieldsOf 30).toList.mapM (fun f => (Try.prog.info? f.type).map fun i => (f.offset, i.size)) = some [(0, 1), (1, 35), (36, 4), (40, 1)] := by kernel_rfl
  have hu2 : Try.prog.underlying 30 = some (.struct (Try.prog.fieldsOf 30)) := by kernel_rfl
  unfold Program.built
  cases hi : Try.prog.info? 30 with
  | none => rw [hi] at hz; cases hz
  | some it =>
    rw [hi] at hz
    simp only [Option.bind_some] at hz
    simp only [hu2, hz, hp]
    show Instr.fill _ (List.toArray _) _ = _
    have hx := vx_len v
    rw [fill_cons _ _ 0 0 1 _ [.string nm] _ rfl rfl rfl (by simp), fill_cons _ _ 1 1 35 _ (vx v) _ rfl rfl hx (by simp [over]; omega), Instr.fill]
    simp only [over, nc, hx]
    refine congrArg some (congrArg List.toArray ?_)
    simp only [List.take_zero, List.nil_append, List.cons_append, List.length_cons, List.length_nil, List.drop_succ_cons, List.drop_zero, List.take_succ_cons, Nat.reduceAdd]
    rw [List.drop_append, hl, List.drop_of_length_le (by omega)]
    simp
theorem build30n (nm : ByteArray) (w : World) : (Instr.build 30 #[(0, .string nm)]).run Try.prog w = .ok (.agg (nc nm Vd.zero Md.zero (.slice none 0 0))) w := by
  refine run_build w 30 _ _ ?_
  have hz : (Try.prog.info? 30).bind (·.zero) = some (.agg (List.toArray (.string ⟨#[]⟩ :: (vx Vd.zero ++ (mx Md.zero ++ [.slice none 0 0]))))) := by kernel_rfl
  have hp : (Try.prog.fieldsOf 30).toList.mapM (fun f => (Try.prog.info? f.type).map fun i => (f.offset, i.size)) = some [(0, 1), (1, 35), (36, 4), (40, 1)] := by kernel_rfl
  have hu2 : Try.prog.underlying 30 = some (.struct (Try.prog.fieldsOf 30)) := by kernel_rfl
  unfold Program.built
  cases hi : Try.prog.info? 30 with
  | none => rw [hi] at hz; cases hz
  | some it =>
    rw [hi] at hz
    simp only [Option.bind_some] at hz
    simp only [hu2, hz, hp]
    show Instr.fill _ (List.toArray _) _ = _
    rw [fill_cons _ _ 0 0 1 _ [.string nm] _ rfl rfl rfl (by simp), Instr.fill]
    simp only [over, nc]
    refine congrArg some (congrArg List.toArray ?_)
    simp
theorem build24k (w : World) : (Instr.build 24 #[(0, .int .i64 77)]).run Try.prog w = .ok (.agg (vx bangV).toArray) w := by
  refine run_build w 24 _ _ ?_
  kernel_rfl
theorem exec_build {o : Oper} {a : Act} (ty : TypeId) (parts : Array (Nat × Operand)) (ho : o.op = .build ty parts) (ps : Array (Nat × Value)) (v : Value) (w : World) (hp : (parts.map fun (p : Nat × Operand) => (p.1, a.eval p.2)) = ps) (hb : (Instr.build ty ps).run Try.prog w = .ok v w) :
    (execOp a.eval o).run Try.prog w = .ok (.value v) w := by
  unfold execOp
  simp only [ho]
  have : (parts.map fun (x : Nat × Operand) => match x with | (i, x) => (i, a.eval x)) = ps := hp
  rw [this]
  simp only [Sem.run_bind, hb, Result.andThen_ok, Sem.run_pure]

/-- what spoil's loop holds -/
def SI (S : Nat → Prop) (w : World) (a : Option Addr) (f : F) (wr : World) (i : Nat) : Prop := Spl S w wr ∧ (f = .nil ∨ ∃ g, a = some ⟨g, 0, none⟩ ∧ S g ∧ (∀ j, wr.frozen? ⟨g, j, none⟩ = false) ∧ (∀ j, j < i → Lies wr g (j * 41) bangC) ∧ ∃ S2 : Nat → Prop, (∀ b, S2 b → S b ∧ b ≠ g) ∧ HasRD wr (f.drop i) S2 g (i * 41))
theorem bangC_size : bangC.size = 41 := nc_size ..
theorem bangC_one : bangC.all (·.oneCell') = true := nc_one _ _ _ _ rfl
theorem SI.next {S S1 S2 : Nat → Prop} {w wr w2 : World} {g : Nat} {f : F} {i : Nat} {nm : ByteArray} {v : Vd} {m : Md} {kv : Value} (hs : Spl S w wr) (hg : S g) (hf : ∀ j, wr.frozen? ⟨g, j, none⟩ = false) (hb : ∀ j, j < i → Lies wr g (j * 41) bangC) (h1 : ∀ b, S1 b → (S b ∧ b ≠ g) ∧ ¬ S2 b) (h2 : ∀ b, S2 b → S b ∧ b ≠ g)
    (hc : Lies wr g (i * 41) (nc nm v m kv)) (hr : HasRD wr (f.drop (i + 1)) S2 g (i * 41 + 41)) (hw : Spl S1 wr w2) : w2.there g (i * 41) 41 ∧ SI S w (some ⟨g, 0, none⟩) f (w2.setCells g (i * 41) bangC.toList) (i + 1) := by
  have eg : w2.heap[g]? = wr.heap[g]? := hw.block g fun e => (h1 g e).1.2 rfl
  have hc2 := hc.sameB eg
  have hf2 : ∀ j, w2.frozen? ⟨g, j, none⟩ = false := fun j => frozen_sameB eg (hf j)
  have hl : bangC.toList.length = 41 := by simp [bangC_size]
  refine ⟨lies_there hc2 (nc_size ..) hf2, (hs.trans hw fun b hb => (h1 b hb).1.1).trans (Spl.store w2 g (i * 41) _ hg) fun _ h => h, .inr ⟨g, rfl, hg, fun j => (World.frozen?_setCells g _ _ w2 _).trans (hf2 j), fun j hj => ?_, S2, h2, ?_⟩⟩
  · by_cases e : j = i
    · subst e
      exact lies_in hc2 (nc_size ..) bangC_size
    · exact lies_out ((hb j (by omega)).sameB eg) bangC_size (.inl (by omega))
  · rw [show (i + 1) * 41 = i * 41 + 41 by omega]
    exact (hr.keep (fun b hb => ⟨hw.block b fun e => (h1 b e).2 hb, hb⟩) eg).aside (fun b hb => (h2 b hb).2) (by rw [hl]; exact Nat.le_refl _)
theorem SI.fin {S : Nat → Prop} {w wr : World} {a : Option Addr} {cap : Nat} {f : F} (h : SI S w a f wr f.len) (hc : f.len ≤ cap) : Spl S w wr ∧ HasS wr (.slice a f.len cap) (F.bangs f.len) := by
  obtain ⟨h1, h | ⟨g, rfl, _, _, hb, _⟩⟩ := h
  · subst h
    exact ⟨h1, a, cap, rfl, hc, .inl rfl⟩
  · refine ⟨h1, _, cap, by rw [F.bangs_len], by rw [F.bangs_len]; exact hc, .inr ⟨g, 0, rfl, bangs_row _ 0 fun j hj => ?_⟩⟩
    rw [Nat.zero_add]
    exact hb j hj
def SpoilOk (f : F) : Prop := ∀ (v : Value) (S : Nat → Prop) (w : World), HasSD w S v f → f.size ≤ 100000 → Calls Try.prog 14 #[v] w fun e w' => (∃ b, e = .returned b) ∧ Spl S w w' ∧ HasS w' v (F.bangs f.len)
set_option maxRecDepth 100000 in
set_option maxHeartbeats 1000000 in
theorem spoil_any : ∀ (Z : Nat) (f : F), f.size < Z → SpoilOk f := by
  intro Z
  induction Z with
  | zero => intro f h; omega
  | succ Z ih =>
    intro f hZ v S w hD hsz
    obtain ⟨a, cap, rfl, hcap, hD⟩ := hD
    obtain ⟨N, hN⟩ : ∃ N, f.len = N := ⟨_, rfl⟩
    have hN2 : N ≤ 100000 := by have := f.len_le_size; omega
    have HI : Hid (SI S w a f w 0) := ⟨Spl.refl _ _, hD.imp id fun ⟨g, ha, hs, hf, hr⟩ => ⟨g, ha, hs, hf, fun j hj => by omega, _, fun b hb => hb, by rw [F.drop_zero, Nat.zero_mul]; exact hr⟩⟩
    have HN : Hid (f.len = N ∧ f.size < Z + 1 ∧ f.size ≤ 100000 ∧ f.len ≤ cap) := ⟨hN, hZ, hsz, hcap⟩
    have HIH : Hid (∀ f : F, f.size < Z → SpoilOk f) := ih
    rw [hN]
    clear hN hZ hsz hcap hD ih
    go_enter Try.func14, Try.ntmps14
    go_wp2_with fail
    go_loopw [2] (fun i wr => ∃ k : Nat, i = .int .i64 k ∧ k ≤ N ∧ Hid (SI S w a f wr k)) (fun i _ => N - iOf i)
    case atStart => exact ⟨0, rfl, Nat.zero_le _, HI.out⟩
    case round =>
      clear HI
      obtain ⟨k, rfl, hk, HI⟩ := hrel
      by_cases hlt : k < N
      · have hltI : (k : Int) < (N : Int) := by omega
        obtain ⟨hsp, hf | ⟨g, rfl, hg, hfz, hbg, S0, hS0, hrd⟩⟩ := HI.out
        · exfalso
          have := HN.out.1
          rw [hf] at this
          simp [F.len] at this
          omega
        obtain ⟨nm, v, m, ks, hd⟩ := F.drop_more f k (by rw [HN.out.1]; exact hlt)
        rw [hd] at hrd
        obtain ⟨S1, S2, a1, cap1, h1, h2, hc, hl1, hk1, hr⟩ := hrd
        have hks := F.kids_size hd
        have c40 := hc 40 (.slice a1 ks.len cap1) (nc_kids ..)
        have CC := HIH.out ks (by have := HN.out.2.1; omega) (.slice a1 ks.len cap1) S1 wr ⟨a1, cap1, rfl, hl1, hk1⟩ (by have := HN.out.2.2.1; omega)
        have HX := hid (⟨hsp, hg, hfz, hbg, fun b hb => ⟨hS0 b (h1 b hb).1, (h1 b hb).2⟩, fun b hb => hS0 b (h2 b hb), hc, hr⟩ : Spl S w wr ∧ S g ∧ (∀ j, wr.frozen? ⟨g, j, none⟩ = false) ∧ (∀ j, j < k → Lies wr g (j * 41) bangC) ∧ (∀ b, S1 b → (S b ∧ b ≠ g) ∧ ¬ S2 b) ∧ (∀ b, S2 b → S b ∧ b ≠ g) ∧ Lies wr g (k * 41) (nc nm v m (.slice a1 ks.len cap1)) ∧ HasRD wr (f.drop (k + 1)) S2 g (k * 41 + 41))
        obtain ⟨n1, hn1⟩ : ∃ n1, ks.len = n1 := ⟨_, rfl⟩
        rw [hn1] at c40 CC
        clear hsp hg hfz hbg h1 h2 hc hr hl1 hk1 hd HI hS0 hks hn1
        go_wp2_with fail
        refine CC.mono ?_
        rintro e w2 ⟨⟨b2, rfl⟩, hsp2, _⟩
        have HY := hid (SI.next HX.out.1 HX.out.2.1 HX.out.2.2.1 HX.out.2.2.2.1 HX.out.2.2.2.2.1 HX.out.2.2.2.2.2.1 HX.out.2.2.2.2.2.2.1 HX.out.2.2.2.2.2.2.2 hsp2)
        clear hsp2 CC
        go_wp2_with (first
          | (go_at_call 14; refine CC.mono ?_; rintro e w2 ⟨⟨b2, rfl⟩, hsp2, _⟩; have HY := hid (SI.next HX.out.1 HX.out.2.1 HX.out.2.2.1 HX.out.2.2.2.1 HX.out.2.2.2.2.1 HX.out.2.2.2.2.2.1 HX.out.2.2.2.2.2.2.1 HX.out.2.2.2.2.2.2.2 hsp2); clear hsp2 CC)
          | (with_reducible refine wpList_exec (.agg (vx bangV).toArray) ?_ ?_ ?_; exact exec_build 24 _ rfl _ _ _ rfl (build24k _); kernel_rfl)
          | (with_reducible refine wpList_exec (.agg bangC) ?_ ?_ ?_; exact exec_build 30 _ rfl _ _ _ rfl (build30b bangV bang _); kernel_rfl)
          | (with_reducible refine wpList_skipW (w2.setCells g (k * 41) bangC.toList) ?_ ?_ ?_; exact exec_store30m _ _ rfl g (k * 41) bangC rfl rfl _ HY.out.1 bangC_size bangC_one; kernel_rfl))
        go_roundw
        case rel => exact ⟨k + 1, by go_num, by omega, HY.out.2⟩
        case measure => simp; omega
      · have hltI : ¬ (k : Int) < (N : Int) := by omega
        obtain rfl : k = N := by omega
        have HX := hid (SI.fin (cap := cap) (by rw [HN.out.1]; exact HI.out) HN.out.2.2.2)
        rw [HN.out.1] at HX
        clear HI
        go_wp2_with fail
        go_end0
        exact ⟨⟨_, rfl⟩, HX.out⟩
end Go.Proofs.Ytjkbhfkeagfhbaa
namespace Go.Proofs.Ytjkbhfkeagfhbaa
open Go.RowKit

/-- marks that are none -/
def noM (_ : Md) : Md := Md.zero
theorem nc_marks_set (w : World) {B : Nat} {nm : ByteArray} {v : Vd} {m : Md} {kv : Value} (h : Var w B (nc nm v m kv)) : Var (w.setCells B 36 (mx Md.zero)) B (nc nm v Md.zero kv) := by
  obtain ⟨n0, s0, n1, s1⟩ := m
  have h1 := (((h.setCell 36 (.int .i64 0)).setCell 37 (.int .i64 0)).setCell 38 (.int .i64 0)).setCell 39 (.int .i64 0)
  have e : ((((nc nm v ⟨n0, s0, n1, s1⟩ kv).setIfInBounds 36 (.int .i64 0)).setIfInBounds 37 (.int .i64 0)).setIfInBounds 38 (.int .i64 0)).setIfInBounds 39 (.int .i64 0) = nc nm v Md.zero kv := by
    have hl : (vx v).length = 35 := vx_len v
    simp only [nc, List.setIfInBounds_toArray, List.set_cons_succ]
    rw [List.set_append_right _ _ (by omega), hl, List.set_append_right _ _ (by omega), hl, List.set_append_right _ _ (by omega), hl, List.set_append_right _ _ (by omega), hl]
    simp [mx, Md.zero]
  rw [e] at h1
  exact h1
theorem build27z (w : World) : (Instr.build 27 #[]).run Try.prog w = .ok (.agg (mx Md.zero).toArray) w := by
  refine run_build w 27 _ _ ?_
  kernel_rfl
theorem exec_store27m {o : Oper} {a : Act} (x y : Operand) (ho : o.op = .store 27 x y) (g f : Nat) (c : Array Value) (hx : a.eval x = .pointer (some ⟨g, f, none⟩)) (hy : a.eval y = .agg c) (w : World) (ht : w.there g f 4)
    (hs : c.size = 4) (h1 : c.all (·.oneCell') = true) : (execOp a.eval o).run Try.prog w = .ok .skip (w.setCells g f c.toList) := by
  unfold execOp
  simp only [ho, hx, hy, Sem.run_bind, Sem.run_pure, Result.andThen_ok, run_storeAt_mid (P := Try.prog) w g f 27 c (by rw [hs]; exact ht) (by rw [size27, hs]) h1]

def BareOk (ks : F) : Prop := ∀ (nm : ByteArray) (v : Vd) (m : Md) (c : Array Value) (w : World), HasN w c nm v m ks → ks.weight ≤ 100000 →
    Calls Try.prog 68 #[.agg c] w fun e w' => ∃ c', e = .returned (.agg c') ∧ HasNP w' (New w w') c' nm (id v) (noM m) (ks.mp id noM) ∧ G w w'
set_option maxRecDepth 100000 in
set_option maxHeartbeats 2000000 in
theorem BareOk_any : ∀ (Z : Nat) (ks : F), ks.size < Z → BareOk ks := by
  intro Z
  induction Z with
  | zero => intro f h; omega
  | succ Z ih =>
    intro ks hZ nm v m c w hNN hw
    obtain ⟨N, hN⟩ : ∃ N, ks.len = N := ⟨_, rfl⟩
    have hN2 : N ≤ 100000 := by have := ks.len_le_size; have := F.size_le_weight ks; omega
    have hsz : c.size = 41 := by obtain ⟨_, rfl, _⟩ := hNN; exact nc_size ..
    have hV0 := Var.new w c
    have hV1 := hV0.grow (G.alloc (w.alloc (.cells c 30)) (.cells z30 30))
    have hV2 := Var.new (w.alloc (.cells c 30)) z30
    rw [World.size_alloc] at hV2
    have hG1 : G w ((w.alloc (.cells c 30)).alloc (.cells z30 30)) := (G.alloc _ _).trans (G.alloc _ _)
    have hS1 : ((w.alloc (.cells c 30)).alloc (.cells z30 30)).heap.size = w.heap.size + 2 := by simp
    have H1 := hid (⟨hV1, hV2, hG1, hNN.below hG1, hS1⟩ : Var _ w.heap.size c ∧ Var _ (w.heap.size + 1) z30 ∧ G w ((w.alloc (.cells c 30)).alloc (.cells z30 30)) ∧ HasN ((w.alloc (.cells c 30)).alloc (.cells z30 30)) c nm v m ks ∧ ((w.alloc (.cells c 30)).alloc (.cells z30 30)).heap.size = w.heap.size + 2)
    have HS : Hid (ks.len = N ∧ ks.size < Z + 1 ∧ ks.weight ≤ 100000) := ⟨hN, hZ, hw⟩
    have HIH : Hid (∀ ks : F, ks.size < Z → BareOk ks) := ih
    clear hNN hN hZ hw ih hV0 hV1 hV2 hG1 hS1
    go_enter Try.func68, Try.ntmps68
    go_upto_region 1 with (with_reducible refine wpList_execW (.pointer (some ⟨(w.alloc (.cells c 30)).heap.size, 0, none⟩)) ((w.alloc (.cells c 30)).alloc (.cells z30 30)) ?_ ?_ ?_; exact exec_alloc30 rfl _; kernel_rfl)
    try simp only [Act.put, List.setIfInBounds_toArray, List.set_cons_zero, List.set_cons_succ, World.size_alloc]
    generalize (w.alloc (.cells c 30)).alloc (.cells z30 30) = w1 at *
    obtain ⟨B, hB⟩ : ∃ B, w.heap.size = B := ⟨_, rfl⟩
    rw [hB] at H1 ⊢
    have HB : Hid (w.heap.size = B) := hB
    clear hB
    have CO := copyO_any ks nm v m c w1 H1.out.2.2.2.1 HS.out.2.2
    go_wp2_with ((with_reducible refine wpList_exec (.agg c) ?_ ?_ ?_); exact exec_load30 _ rfl B 0 rfl c hsz H1.out.1.lies; kernel_rfl)
    refine CO.mono ?_
    rintro e w2 ⟨c2, rfl, ⟨u, xs, T, hc2, ho, hcs, hT⟩, hg2⟩
    obtain ⟨a, cap, rfl⟩ : ∃ a cap, u = .slice a N cap := by
      rw [HS.out.1] at ho
      obtain ⟨_, ⟨e, e2⟩ | ⟨g, cp, cur, hv, _⟩⟩ := ho
      · exact ⟨none, 0, by rw [e, e2]⟩
      · exact ⟨_, _, hv⟩
    have hs2 : c2.size = 41 ∧ c2.all (·.oneCell') = true := by rw [hc2]; exact ⟨nc_size .., nc_one _ _ _ _ rfl⟩
    have H2 := hid (⟨H1.out.1.grow hg2, H1.out.2.1.grow hg2, H1.out.2.2.1.trans hg2, by have := hg2.size; have := H1.out.2.2.2.2; omega⟩ : Var w2 B c ∧ Var w2 (B + 1) z30 ∧ G w w2 ∧ B + 2 ≤ w2.heap.size)
    have HO := hid (⟨hc2, by rw [← H1.out.2.2.2.2]; exact ho, hcs, fun b hb => by have h := hT b hb; have := H1.out.2.2.2.2; exact ⟨by omega, h.2⟩⟩ : c2 = nc nm v m (.slice a N cap) ∧ w2.ownsRow (B + 2) 30 41 (.slice a N cap) ks.len xs ∧ RCells w2 T ks xs ∧ ∀ b, T b → B + 2 ≤ b ∧ b < w2.heap.size ∧ some b ≠ (Value.slice a N cap).ownBlock)
    clear CO hc2 ho hcs hT hg2 H1
    have hV3 : Var (w2.setRow B c2) B c2 := H2.out.1.set
    have hth : (w2.setRow B c2).there B 36 4 := fun j hj => ⟨by
      have := lies_cell hV3.lies (36 + j) (c2[36 + j]'(by have := hs2.1; omega)) (by simp)
      rw [this]; rfl, var_frozen hV3 _⟩
    have HE : Hid ((w2.setRow B c2).heap.size = w2.heap.size ∧ ∀ b, b ≠ B → (w2.setRow B c2).heap[b]? = w2.heap[b]?) := ⟨by simp, fun b hb => setRow_other _ B b _ hb⟩
    have hv : Var ((w2.setRow B c2).setCells B 36 (mx Md.zero)) B (nc nm v Md.zero (.slice a N cap)) := by
      refine nc_marks_set _ (m := m) ?_
      rw [← HO.out.1]; exact hV3
    have hM : MI id noM w B (nc nm v Md.zero (.slice a N cap)) ks (.slice a N cap) ((w2.setRow B c2).setCells B 36 (mx Md.zero)) 0 := by
      refine MI.start H2.out.2 HO.out.2.1 HO.out.2.2.1 HO.out.2.2.2 HB.out ?_ ?_ ?_ hv
      · intro b hb
        exact (setCells_block B _ _ _ b hb).trans (HE.out.2 b hb)
      · exact (setCells_os B _ _ _).2.2.2.trans HE.out.1
      · exact ⟨(setCells_os B _ _ _).1, (setCells_os B _ _ _).2.1, (setCells_os B _ _ _).2.2.1⟩
    have c40 := lies_cell hv.lies 40 _ (nc_kids ..)
    obtain ⟨cm, hcmE⟩ : ∃ cm, nc nm v Md.zero (.slice a N cap) = cm := ⟨_, rfl⟩
    rw [hcmE] at hM
    have HC := hid hcmE.symm
    have HMI := hid hM
    clear hM hcmE HO hv
    go_upto_region 2 with ((with_reducible refine wpList_skipW (w2.setRow B c2) ?_ ?_ ?_); exact exec_store30 _ _ rfl B _ c rfl rfl _ H2.out.1 hs2.1 hsz hs2.2; kernel_rfl)
    generalize w2.setRow B c2 = wS at *
    obtain ⟨ZL, hZL⟩ : ∃ ZL, mx Md.zero = ZL := ⟨_, rfl⟩
    rw [hZL] at HMI c40
    have HZ := hid hZL
    clear hZL
    go_upto_region 3 with ((with_reducible refine wpList_skipW (wS.setCells B 36 ZL) ?_ ?_ ?_); exact (by rw [← HZ.out]; exact exec_store27m _ _ rfl B 36 (mx Md.zero).toArray rfl rfl _ hth rfl (by kernel_rfl)); kernel_rfl)
    generalize wS.setCells B 36 ZL = w3 at *
    clear H2 HE hV3 hth
    go_wp2_with fail
    go_loopw [3] (fun i wr => ∃ k : Nat, i = .int .i64 k ∧ k ≤ N ∧ wr.cell? ⟨B, 40, none⟩ = some (.slice a N cap) ∧ Hid (MI id noM w B cm ks (.slice a N cap) wr k)) (fun i _ => N - iOf i)
    case atStart => exact ⟨0, rfl, Nat.zero_le _, c40, HMI.out⟩
    case round =>
      clear c40 HMI
      obtain ⟨k, rfl, hk, q40, HI⟩ := hrel
      by_cases hlt : k < N
      · have hltI : (k : Int) < (N : Int) := by omega
        obtain ⟨nm1, v1, m1, ks1, hd1⟩ := F.drop_more ks k (by rw [HS.out.1]; exact hlt)
        obtain ⟨g, rfl⟩ : ∃ g, a = some ⟨g, 0, none⟩ := by
          obtain ⟨_, _, _, _, ys, zs, T, ho, _⟩ := HI.out
          rw [HS.out.1, show N = (N - 1) + 1 by omega] at ho
          obtain ⟨g, cp, e⟩ := row_form ho
          injection e with e1
          exact ⟨g, e1⟩
        obtain ⟨c1, hl1, hs1, hn1⟩ := HI.out.at hd1
        have hksz := F.kids_size hd1
        have hwt : ks1.weight ≤ 100000 := by
          have h1 := HS.out.2.2
          have h2 := congrArg F.weight (F.app_take_drop ks k)
          rw [F.app_weight, hd1, F.weight] at h2
          omega
        have CC := hid (fun W (hW : G wr W) => HIH.out ks1 (by have := HS.out.2.1; omega) nm1 v1 m1 c1 W (hn1.below hW) hwt)
        have HL := hid (⟨hl1, hs1⟩ : Lies wr g (k * 41) c1 ∧ c1.size = 41)
        have HD : Hid (ks.drop k = .cons nm1 v1 m1 ks1 (ks.drop (k + 1))) := hd1
        clear hd1 hl1 hs1 hn1 hksz hwt
        go_upto_region 6 with fail
        refine wp_region_S 10 ?_
        replace q40 := (G.drew wr).cell q40
        have HW := hid (G.drew wr)
        replace HL := hid (⟨HL.out.1.below (G.drew wr), HL.out.2⟩ : Lies wr.drew g (k * 41) c1 ∧ c1.size = 41)
        generalize wr.drew = wd at *
        refine takeS 0 15 (.pointer (some ⟨B, 40, none⟩)) rfl rfl (by kernel_rfl) (by kernel_rfl) (by kernel_rfl) (by kernel_rfl) (fun _ _ _ h => h) (by kernel_rfl) (fun wz hz => ?_) ?_
        · go_simp
        try simp only [Act.put, List.setIfInBounds_toArray, List.set_cons_zero, List.set_cons_succ]
        refine takeS 1 16 (.slice (some ⟨g, 0, none⟩) N cap) rfl rfl (by kernel_rfl) (by kernel_rfl) (by kernel_rfl) (by kernel_rfl) (fun _ _ _ h => h) (by kernel_rfl) (fun wz hz => ?_) ?_
        · have y0 := hz.cell q40; go_simp
        try simp only [Act.put, List.setIfInBounds_toArray, List.set_cons_zero, List.set_cons_succ]
        refine takeS 2 17 (.int .i64 k) rfl rfl (by kernel_rfl) (by kernel_rfl) (by kernel_rfl) (by kernel_rfl) (fun _ _ _ h => h) (by kernel_rfl) (fun wz hz => ?_) ?_
        · rfl
        try simp only [Act.put, List.setIfInBounds_toArray, List.set_cons_zero, List.set_cons_succ]
        refine takeS 3 18 (.pointer (some ⟨B, 40, none⟩)) rfl rfl (by kernel_rfl) (by kernel_rfl) (by kernel_rfl) (by kernel_rfl) (fun _ _ _ h => h) (by kernel_rfl) (fun wz hz => ?_) ?_
        · go_simp
        try simp only [Act.put, List.setIfInBounds_toArray, List.set_cons_zero, List.set_cons_succ]
        refine takeS 4 19 (.slice (some ⟨g, 0, none⟩) N cap) rfl rfl (by kernel_rfl) (by kernel_rfl) (by kernel_rfl) (by kernel_rfl) (fun _ _ _ h => h) (by kernel_rfl) (fun wz hz => ?_) ?_
        · have y0 := hz.cell q40; go_simp
        try simp only [Act.put, List.setIfInBounds_toArray, List.set_cons_zero, List.set_cons_succ]
        refine takeS 5 20 (.int .i64 k) rfl rfl (by kernel_rfl) (by kernel_rfl) (by kernel_rfl) (by kernel_rfl) (fun _ _ _ h => h) (by kernel_rfl) (fun wz hz => ?_) ?_
        · rfl
        try simp only [Act.put, List.setIfInBounds_toArray, List.set_cons_zero, List.set_cons_succ]
        refine takeS 6 21 (.pointer (some ⟨g, k * 41, none⟩)) rfl rfl (by kernel_rfl) (by kernel_rfl) (by kernel_rfl) (by kernel_rfl) (fun _ _ _ h => h) (by kernel_rfl) (fun wz hz => ?_) ?_
        · go_simp
        try simp only [Act.put, List.setIfInBounds_toArray, List.set_cons_zero, List.set_cons_succ]
        refine takeS 7 22 (.agg c1) rfl rfl (by kernel_rfl) (by kernel_rfl) (by kernel_rfl) (by kernel_rfl) (fun _ _ _ h => h) (by kernel_rfl) (fun wz hz => ?_) ?_
        · exact exec_load30 _ rfl g (k * 41) rfl c1 HL.out.2 (HL.out.1.below hz)
        try simp only [Act.put, List.setIfInBounds_toArray, List.set_cons_zero, List.set_cons_succ]
        refine nextS 8 23 68 #[.agg c1] rfl rfl (by decide) (by kernel_rfl) (by kernel_rfl) (fun wz => by go_simp) (fun w5 hg5 => ?_)
        refine (CC.out w5 (HW.out.trans hg5)).mono ?_
        rintro e w6 ⟨c6, rfl, hn6, hg6⟩
        refine ⟨_, rfl, hg6, ?_⟩
        try simp only [Act.put, List.setIfInBounds_toArray, List.set_cons_zero, List.set_cons_succ]
        have hs6 : c6.size = 41 ∧ c6.all (·.oneCell') = true := by
          obtain ⟨kv2, rfl, hk2⟩ := hn6
          obtain ⟨a2, cap2, rfl, _⟩ := hk2
          exact ⟨nc_size .., nc_one _ _ _ _ rfl⟩
        refine takeS 9 24 (.pointer (some ⟨g, k * 41, none⟩)) rfl rfl (by kernel_rfl) (by kernel_rfl) (by kernel_rfl) (by kernel_rfl) (fun _ _ _ h => h) (by kernel_rfl) (fun wz hz => ?_) ?_
        · go_simp
        try simp only [Act.put, List.setIfInBounds_toArray, List.set_cons_zero, List.set_cons_succ]
        refine lastS rfl rfl (by kernel_rfl) (by kernel_rfl) (by kernel_rfl) (fun w7 hg7 => ?_)
        have hst := MI.step HI.out HD.out (HW.out.trans hg5) hn6 hg6 hg7 HB.out HS.out.1
        refine ⟨w7.setCells g (k * 41) c6.toList, exec_store30m _ _ rfl g (k * 41) c6 rfl rfl _ hst.1 hs6.1 hs6.2, ?_⟩
        have HM := hid hst.2
        have z40 := lies_cell hst.2.2.1.lies 40 (.slice (some ⟨g, 0, none⟩) N cap) (by rw [HC.out]; exact nc_kids ..)
        clear hst hn6 hg5 hg6 hg7 CC
        generalize w7.setCells g (k * 41) c6.toList = w8 at *
        go_wp2_with fail
        go_roundw
        case rel => exact ⟨k + 1, by go_num, by omega, z40, HM.out⟩
        case measure => simp; omega
      · have hltI : ¬ (k : Int) < (N : Int) := by omega
        obtain rfl : k = N := by omega
        have HF := hid (⟨(by have := HI.out; rw [← HS.out.1] at this; rw [HS.out.1] at this; exact this), HI.out⟩ : MI id noM w B cm ks (.slice a k cap) wr k ∧ MI id noM w B cm ks (.slice a k cap) wr k)
        have hcs : cm.size = 41 := by rw [HC.out]; exact nc_size ..
        have hco : cm.all (·.oneCell') = true := by rw [HC.out]; exact nc_one _ _ _ _ rfl
        clear HI
        go_wp2_with (first
          | ((with_reducible refine wpList_exec (.agg cm) ?_ ?_ ?_); exact exec_load30 _ rfl B 0 rfl _ hcs HF.out.1.2.1.lies; kernel_rfl)
          | ((with_reducible refine wpList_skipW (wr.setRow (B + 1) cm) ?_ ?_ ?_); exact exec_store30 _ _ rfl (B + 1) _ z30 rfl rfl _ HF.out.1.2.2.1 hcs z30_size hco; kernel_rfl))
        refine bodyPost_ret (results_cell_row (P := Try.prog) (p := 2) (ty := 30) rfl _ _ (B + 1) 30 cm (0, 0) _ rfl HF.out.1.2.2.1.set under30 rfl (by rw [size30, hcs])) rfl ?_
        have hsp := MI.fin (fv := id) (fm := noM) (w := w) (B := B) (c := cm) (ks := ks) (u := .slice a k cap) (wr := wr) (by rw [HS.out.1]; exact HF.out.1)
        have hoth : ∀ b, b ≠ B + 1 → (wr.setRow (B + 1) cm).heap[b]? = wr.heap[b]? := fun b hb => setRow_other _ (B + 1) b _ hb
        have hHB := HB.out
        refine ⟨_, rfl, ⟨_, HC.out, hsp.keep fun b hb => ⟨hoth b (by omega), by omega, by simp; exact hb.2⟩⟩, ?_⟩
        exact Below.trans (B := w.heap.size) HF.out.1.1 ⟨rfl, rfl, rfl, by simp, fun b hb => hoth b (by omega)⟩
end Go.Proofs.Ytjkbhfkeagfhbaa
