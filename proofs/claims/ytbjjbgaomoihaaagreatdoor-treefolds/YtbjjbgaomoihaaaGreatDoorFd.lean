import Derived.Test.YtbjjbgaomoihaaaGreatDoorGf
set_option maxRecDepth 100000
set_option maxHeartbeats 8000000
namespace Go.Proofs.YtbjjbgaomoihaaaGreatDoor
open Go.RowKit
theorem wpList_append_one {w : World} {ops : Array Oper} {rest : List Oper} {o : Oper} {a : Act} {Q : Exit → Act → World → Prop} (hgd : o.guard = none) (s x : Operand)
    (ho : o.op = .call { callee := .builtin .append, args := #[s, x], argTypes := #[56, 56] })
    (lo : Nat) (v : Value) (m : List ByteArray) (q : ByteArray) (b : Nat) (hs : a.eval s = v) (hx : a.eval x = .slice (some ⟨b, 0, none⟩) 1 1) (hq : w.cell? ⟨b, 0, none⟩ = some (.string q)) (hown : OwnsT w lo v m)
    (hlen : m.length ≤ 1000000) (hbase : lo ≤ w.heap.size)
    (h : ∀ pa pl pc w', pl = m.length + 1 → OwnsT w' lo (.slice pa pl pc) (m ++ [q]) → w.grownBy w' v.ownBlock → ((Value.slice pa pl pc).ownBlock = v.ownBlock ∨ (Value.slice pa pl pc).ownBlock = some w.heap.size) → wpList Tryz.prog ops Q rest (a.put o.dst (.slice pa pl pc)) w') : wpList Tryz.prog ops Q (o :: rest) a w := by
  obtain ⟨i0, hi, hz0, hz1, hz2⟩ := info_parts Tryz.info9
  refine wpList_append_own_at w hgd s x 56 ho lo 9 i0 (.string ⟨#[]⟩) 1 16 Tryz.underlying56 hi hz0 hz1 hz2 rfl (by decide) v m.length (m.map Value.string) hs hown ⟨b, 0, none⟩ 1 1 [.string q] hx rfl (fun j u hj => ?_) (by simp [Value.oneCell']) (by unfold maxLen; omega) (by omega) hbase ?_
  · match j, hj with
    | 0, hj =>
      simp at hj
      subst hj
      rw [Addr.add_mid, Nat.zero_add]
      exact hq
  · intro v' w' h1 h2 _ h4
    obtain ⟨pa, pc, rfl⟩ := Bk.row_form h1
    refine h pa _ pc w' rfl ?_ h2 h4
    unfold OwnsT
    simpa using h1
theorem wpList_append_node {w : World} {ops : Array Oper} {rest : List Oper} {o : Oper} {a : Act} {Q : Exit → Act → World → Prop} (hgd : o.guard = none) (s x : Operand)
    (ho : o.op = .call { callee := .builtin .append, args := #[s, x], argTypes := #[28, 28] })
    (lo k : Nat) (v : Value) (ys : List Value) (c : Array Value) (b : Nat) (hs : a.eval s = v) (hx : a.eval x = .slice (some ⟨b, 0, none⟩) 1 1) (hl : Lies w b 0 c) (hc : c.size = 41) (h1 : c.all (·.oneCell') = true) (hown : w.ownsRow lo 30 41 v k ys)
    (hlen : k ≤ 100000) (hbase : lo ≤ w.heap.size)
    (h : ∀ g cap w', w'.ownsRow lo 30 41 (.slice (some ⟨g, 0, none⟩) (k + 1) cap) (k + 1) (ys ++ c.toList) → w.grownBy w' v.ownBlock → (v.ownBlock = some g ∨ g = w.heap.size) → wpList Tryz.prog ops Q rest (a.put o.dst (.slice (some ⟨g, 0, none⟩) (k + 1) cap)) w') : wpList Tryz.prog ops Q (o :: rest) a w := by
  obtain ⟨g, cap, w', hr, h2, h3, h4⟩ := exec_append30 (o := o) (a := a) s x ho lo k v ys w hs hown ⟨b, 0, none⟩ c hx hc (fun j u hj => by rw [Addr.add_mid]; exact hl j u hj) h1 hlen hbase
  refine wpList_execW (.slice (some ⟨g, 0, none⟩) (k + 1) cap) w' ?_ ?_ ?_
  · exact hr
  · simp [Region.wanted, hgd]
  · exact h g cap w' h2 h3 h4
theorem build30z (w : World) : (Instr.build 30 #[]).run Tryz.prog w = .ok (.agg z30) w := run_build w 30 _ _ (by kernel_rfl)
theorem exec_build30z {o : Oper} {a : Act} (ho : o.op = .build 30 #[]) (w : World) : (execOp a.eval o).run Tryz.prog w = .ok (.value (.agg z30)) w := by
  unfold execOp
  simp only [ho]
  have hm : ((#[] : Array (Nat × Operand)).map fun (x : Nat × Operand) => match x with | (i, x) => (i, a.eval x)) = #[] := by simp
  rw [hm]
  simp only [Sem.run_bind, build30z w, Result.andThen_ok, Sem.run_pure]
theorem exec_build30l {o : Oper} {a : Act} (parts : Array (Nat × Operand)) (ho : o.op = .build 30 parts) (v : Vd) (m : Md) (X Mx : Array Value) (hX : (vx v).toArray = X) (hM : (mx m).toArray = Mx)
    (hp : (parts.map fun (p : Nat × Operand) => (p.1, a.eval p.2)) = #[(1, .agg X), (2, .agg Mx)]) (w : World) : (execOp a.eval o).run Tryz.prog w = .ok (.value (.agg (nc ⟨#[]⟩ v m (.slice none 0 0)))) w := by
  subst hX; subst hM; exact exec_build30 parts ho v m hp w
structure FT (w wr : World) (lo Mb K nb R0 N : Nat) (pre : List ByteArray) (S M2 T : Nat → Prop) (pv : Value) (Bp : Nat → Prop) (v : Vd) (m : Md) (F0 : F) (kv ut : Value) (n : Nat) (xs : List Value) : Prop where
  g : Kw S w wr
  st : Mt lo Mb K nb pre M2 wr pv Bp
  z : Var wr R0 z30
  nn : Var wr N (nc ⟨#[]⟩ v m kv)
  k : HasSP wr (fun b => (T b ∨ w.heap.size ≤ b) ∧ ¬ M2 b ∧ Cls wr b ∧ b ≠ R0 ∧ ut.ownBlock ≠ some b) kv F0
  o : wr.ownsRow lo 30 41 ut n xs
  ne : R0 < N ∧ w.heap.size ≤ R0 ∧ ¬ M2 R0 ∧ lo ≤ w.heap.size ∧ ¬ M2 N
  su : ∀ b, ut.ownBlock = some b → S b ∧ ¬ M2 b ∧ b < w.heap.size
section
variable {w wr : World} {lo Mb K nb R0 N : Nat} {pre : List ByteArray} {S M2 T : Nat → Prop} {pv : Value} {Bp : Nat → Prop} {v : Vd} {m : Md} {F0 : F} {kv ut : Value} {n : Nat} {xs : List Value}
theorem FT.up {w' : World} (h : FT w wr lo Mb K nb R0 N pre S M2 T pv Bp v m F0 kv ut n xs) (hg : G wr w') : FT w w' lo Mb K nb R0 N pre S M2 T pv Bp v m F0 kv ut n xs :=
  ⟨h.g.trans (Kw.of (S := S) hg) (fun _ _ e => e), h.st.up hg, h.z.grow hg, h.nn.grow hg, h.k.keep fun b ⟨h1, h2, h3, h4, h5⟩ => ⟨Below.block hg b h3.lt, h1, h2, h3.of (Below.block hg b h3.lt), h4, h5⟩, owns_growR h.o hg, h.ne, h.su⟩
theorem FT.wipe {g cap i : Nat} (h : FT w wr lo Mb K nb R0 N pre S M2 T pv Bp v m F0 kv (.slice (some ⟨g, 0, none⟩) n cap) n xs) (hi : i < n) (c : Array Value) (hc : c.size = 41) :
    wr.there g (i * 41) 41 ∧ ∃ xs', FT w (wr.setCells g (i * 41) c.toList) lo Mb K nb R0 N pre S M2 T pv Bp v m F0 kv (.slice (some ⟨g, 0, none⟩) n cap) n xs' := by
  have hl : xs.length = n * 41 := h.o.1
  have hb : i * 41 + 41 ≤ xs.length := by rw [hl]; have : (i + 1) * 41 ≤ n * 41 := Nat.mul_le_mul_right _ hi; omega
  obtain ⟨r1, r2⟩ := owns_setCells c.toList (i * 41) wr xs h.o (by simpa [hc] using hb)
  obtain ⟨s1, s2, s3⟩ := h.su g rfl
  have hoth : ∀ b, b ≠ g → (wr.setCells g (i * 41) c.toList).heap[b]? = wr.heap[b]? := fun b hb => setCells_block g _ _ _ _ hb
  have hk : Kw (fun b => b = g) wr (wr.setCells g (i * 41) c.toList) := ⟨r2.os, r2.tape, r2.output, r2.size, fun b _ hn => hoth b hn⟩
  obtain ⟨n1, n2, n3, n4, n5⟩ := h.ne
  refine ⟨owns_there h.o (i * 41) 41 hb, _, h.g.trans hk (fun b _ e => by rw [e]; exact s1), h.st.keep hk (fun b e => by rw [e]; exact s2) (fun b e => by rw [e]; exact (row_cls h.o rfl).2), (hoth R0 (by omega)).trans h.z, (hoth N (by omega)).trans h.nn, h.k.keep fun b ⟨h1, h2, h3, h4, h5⟩ => ?_, r1, h.ne, h.su⟩
  have e := hoth b fun e => h5 (by rw [e]; rfl)
  exact ⟨e, h1, h2, h3.of e, h4, h5⟩
end
theorem FS.book {w wr w' : World} {lo Mb K nb R0 N : Nat} {pre : List ByteArray} {M M1 T : Nat → Prop} {pv : Value} {Bp B' : Nat → Prop} {v : Vd} {m : Md} {F0 : F} {kv un ut : Value} {n : Nat} {ys xs : List Value} {L : List ByteArray}
    (h : FS w wr lo Mb K nb R0 N pre M M1 T pv Bp v m F0 n kv ys) (hF : F0.len = n) (hN : OwnsT w lo un L) (hNM : ∀ b, un.ownBlock = some b → ¬ M b) (hO : w.ownsRow lo 30 41 ut n xs) (hOM : ∀ b, ut.ownBlock = some b → ¬ M b)
    (hT : ∀ b, T b → Cls w b ∧ ut.ownBlock ≠ some b ∧ un.ownBlock ≠ some b) (hBk : Bk.BookOk w' lo K (nb + 1) B') (hbe : Below lo wr w') (hsz : wr.heap.size ≤ w'.heap.size) (hb : ∀ b, b < wr.heap.size → ¬ Bp b → un.ownBlock ≠ some b → w'.heap[b]? = wr.heap[b]? ∧ ¬ B' b) :
    FT w w' lo Mb K (nb + 1) R0 N pre (fun b => M b ∨ un.ownBlock = some b ∨ ut.ownBlock = some b) (fun b => b = Mb ∨ pv.ownBlock = some b ∨ B' b) T pv B' v m F0 kv ut n xs ∧
      ∀ b, (b = Mb ∨ pv.ownBlock = some b ∨ B' b) → M b ∨ un.ownBlock = some b ∨ w.heap.size ≤ b := by
  have hs := h.g.size
  obtain ⟨n1, n2, n3, n4, n5⟩ := h.nN
  have hun : ∀ b, un.ownBlock = some b → b < w.heap.size := fun b e => (row_cls hN e).1.lt
  have hut : ∀ b, ut.ownBlock = some b → b < w.heap.size := fun b e => (row_cls hO e).1.lt
  have hM1 : ∀ b, Bp b → M1 b := fun b e => (h.st.mm b).2 (.inr (.inr e))
  have hunM : ∀ b, M1 b → un.ownBlock ≠ some b := fun b e q => by
    rcases h.m1 b e with k | k
    · exact hNM b q k
    · have := hun b q; omega
  have hMb1 : M1 Mb := (h.st.mm Mb).2 (.inl rfl)
  have hpv1 : ∀ b, pv.ownBlock = some b → M1 b := fun b e => (h.st.mm b).2 (.inr (.inl e))
  have kMb := hb Mb (h.st.lt hMb1) h.st.nb (hunM Mb hMb1)
  have kpv : ∀ b, pv.ownBlock = some b → w'.heap[b]? = wr.heap[b]? ∧ ¬ B' b := fun b e => hb b (h.st.lt (hpv1 b e)) (h.st.pb b e) (hunM b (hpv1 b e))
  have kR : ∀ b, b < wr.heap.size → w.heap.size ≤ b → ¬ M1 b → w'.heap[b]? = wr.heap[b]? ∧ ¬ B' b := fun b h1 h2 h3 => hb b h1 (fun e => h3 (hM1 b e)) (fun e => by have := hun b e; omega)
  have kO : ∀ b, b < w.heap.size → ¬ M b → un.ownBlock ≠ some b → w'.heap[b]? = w.heap[b]? ∧ ¬ B' b := fun b h1 h2 h3 => by
    have h4 := hb b (by omega) (fun e => by rcases h.m1 b (hM1 b e) with k | k; exact h2 k; omega) h3
    exact ⟨h4.1.trans (h.g.block b h1 h2), h4.2⟩
  have hunt : ∀ b, ut.ownBlock = some b → un.ownBlock ≠ some b := fun b e => row_same hO hN (by decide) e
  have k0 := kR R0 h.z.lt n3 n2
  have kN := kR N h.n.lt (by omega) n1
  refine ⟨⟨⟨hbe.os.trans h.g.os, hbe.tape.trans h.g.tape, hbe.output.trans h.g.output, by omega, fun b h1 h2 => (kO b h1 (fun e => h2 (.inl e)) (fun e => h2 (.inr (.inl e)))).1⟩, ⟨kMb.1.trans h.st.met, owns_same h.st.own fun g hg => (kpv g hg).1, hBk, h.st.low, kMb.2, h.st.np, fun b e => (kpv b e).2, fun b => Iff.rfl, h.st.tb.on hbe⟩, k0.1.trans h.z, kN.1.trans h.n, ?_, ?_, ⟨n4, n3, ?_, n5, ?_⟩, ?_⟩, ?_⟩
  · have hnp : ∀ b, ¬ M1 b → ¬ B' b → ¬ (b = Mb ∨ pv.ownBlock = some b ∨ B' b) := fun b h1 h2 => by
      rintro (e | e | e)
      · exact h1 (e ▸ hMb1)
      · exact h1 (hpv1 b e)
      · exact h2 e
    have hr := h.r
    rw [F.take_all F0 n (by omega)] at hr
    refine RCells.slice (lo := lo) (RCells.keep (fun b hTb => ?_) hr) (by rw [hF]; exact owns_same h.o fun g hg => (kR g (row_cls h.o hg).1.lt (h.kb g hg).1 (h.kb g hg).2.1).1) fun g hg => ?_
    · obtain ⟨t1, t2, t3⟩ := hT b hTb
      have t4 := h.tt b hTb
      have t5 := kO b t4.1 t4.2 t3
      have t6 := h.g.block b t4.1 t4.2
      exact ⟨t5.1.trans t6.symm, .inl hTb, hnp b (fun e => by rcases h.m1 b e with k | k; exact t4.2 k; omega) t5.2, t1.of t5.1, by omega, t2⟩
    · have q := h.kb g hg
      have q2 := kR g (row_cls h.o hg).1.lt q.1 q.2.1
      exact ⟨.inr q.1, hnp g q.2.1 q2.2, (row_cls h.o hg).1.of q2.1, q.2.2.2, fun e => by have := hut g e; omega⟩
  · exact owns_same hO fun g hg => (kO g (hut g hg) (hOM g hg) (hunt g hg)).1
  · rintro (e | e | e)
    · exact n2 (e ▸ hMb1)
    · exact n2 (hpv1 R0 e)
    · exact k0.2 e
  · rintro (e | e | e)
    · exact n1 (e ▸ hMb1)
    · exact n1 (hpv1 N e)
    · exact kN.2 e
  · intro b e
    refine ⟨.inr (.inr e), ?_, hut b e⟩
    rintro (q | q | q)
    · rcases h.m1 Mb hMb1 with k | k
      · exact hOM b e (q ▸ k)
      · have := hut b e; omega
    · rcases h.m1 b (hpv1 b q) with k | k
      · exact hOM b e k
      · have := hut b e; omega
    · exact (kO b (hut b e) (hOM b e) (hunt b e)).2 q
  · rintro b (e | e | e)
    · rcases h.m1 Mb hMb1 with k | k
      · exact .inl (e ▸ k)
      · exact .inr (.inr (by omega))
    · rcases h.m1 b (hpv1 b e) with k | k
      · exact .inl k
      · exact .inr (.inr k)
    · by_cases h1 : b < w.heap.size
      · by_cases h2 : M b
        · exact .inl h2
        · by_cases h3 : un.ownBlock = some b
          · exact .inr (.inl h3)
          · exact absurd e (kO b h1 h2 h3).2
      · exact .inr (.inr (by omega))
def Var24f (w : World) (g : Nat) (c : Array Value) : Prop := w.heap[g]? = some (.cells c 24 (0, 0))
def FOut (lo Mb K nb : Nat) (pre : List ByteArray) (S M T : Nat → Prop) (un : Value) (v : Vd) (m : Md) (f : F) (w : World) (e : Ending) (w' : World) : Prop :=
  ∃ c' M' pv' B', e = .returned (.agg c') ∧ HasNP w' (fun b => (T b ∨ w.heap.size ≤ b) ∧ ¬ M' b ∧ Cls w' b) c' ⟨#[]⟩ v m f ∧ Mt lo Mb K nb pre M' w' pv' B' ∧ Kw S w w' ∧ ∀ b, M' b → M b ∨ un.ownBlock = some b ∨ w.heap.size ≤ b
theorem folds_any (lo Mb K nb : Nat) (pre : List ByteArray) (M : Nat → Prop) (pv : Value) (Bp : Nat → Prop) (q : ByteArray) (v : Vd) (m : Md) (un : Value) (a : Option Addr) (n cap : Nat) (L : List ByteArray) (fs : F) (xs : List Value) (T : Nat → Prop) (w : World)
    (hM : Mt lo Mb K nb pre M w pv Bp) (hL : L.length = n) (hf : fs.len = n) (hn : n ≤ 100000) (hpre : pre.length ≤ 100000) (hnb : nb ≤ 100000) (hkd : v.kind = 1 ∨ n = 0) (hN : OwnsT w lo un L) (hNM : ∀ b, un.ownBlock = some b → ¬ M b)
    (hO : w.ownsRow lo 30 41 (.slice a n cap) n xs) (hOM : ∀ b, (Value.slice a n cap).ownBlock = some b → ¬ M b) (hR : RCells w T fs xs) (hT : ∀ b, T b → Cls w b ∧ (Value.slice a n cap).ownBlock ≠ some b ∧ un.ownBlock ≠ some b ∧ ¬ M b) (hlw : lo ≤ w.heap.size) :
    Calls Tryz.prog 8 #[.pointer (some ⟨Mb, 0, none⟩), .string q, .agg (vx v).toArray, .agg (mx m).toArray, un, .slice a n cap] w
      (FOut lo Mb K (nb + 1) (pre ++ [q]) (fun b => M b ∨ un.ownBlock = some b ∨ (Value.slice a n cap).ownBlock = some b) M T un v m (fs.pair L) w) := by
  obtain ⟨ao, cu, eun⟩ := owns_form hN
  rw [hL] at eun
  subst eun
  obtain ⟨X, hX⟩ : ∃ X, (vx v).toArray = X := ⟨_, rfl⟩
  obtain ⟨Mx, hMx⟩ : ∃ M, (mx m).toArray = M := ⟨_, rfl⟩
  rw [hX, hMx]
  obtain ⟨B, hB⟩ : ∃ B, w.heap.size = B := ⟨_, rfl⟩
  have hG1 : G w (((w.alloc (.cells X 24)).alloc (.cells Mx 27)).alloc (.cells z30 30)) := ((G.alloc _ _).trans (G.alloc _ _)).trans (G.alloc _ _)
  have hVX : Var24f (((w.alloc (.cells X 24)).alloc (.cells Mx 27)).alloc (.cells z30 30)) B X := by
    have h : (w.alloc (.cells X 24)).heap[w.heap.size]? = some (.cells X 24 (0, 0)) := World.alloc_heap_new w _
    rw [hB] at h
    exact (Below.heap_alloc _ _ _ (by simp; omega)).trans ((Below.heap_alloc _ _ _ (by simp; omega)).trans h)
  have hVM : (((w.alloc (.cells X 24)).alloc (.cells Mx 27)).alloc (.cells z30 30)).heap[B + 1]? = some (.cells Mx 27 (0, 0)) := by
    have h : ((w.alloc (.cells X 24)).alloc (.cells Mx 27)).heap[(w.alloc (.cells X 24)).heap.size]? = some (.cells Mx 27 (0, 0)) := World.alloc_heap_new _ _
    rw [World.size_alloc, hB] at h
    exact (Below.heap_alloc _ _ _ (by simp; omega)).trans h
  have hVZ : Var (((w.alloc (.cells X 24)).alloc (.cells Mx 27)).alloc (.cells z30 30)) (B + 2) z30 := by
    have h := Var.new ((w.alloc (.cells X 24)).alloc (.cells Mx 27)) z30
    rw [World.size_alloc, World.size_alloc, hB] at h
    exact h
  have hS1 : (((w.alloc (.cells X 24)).alloc (.cells Mx 27)).alloc (.cells z30 30)).heap.size = B + 3 := by simp [hB]
  have HA := hid (⟨hL, hf, hNM, hN, hO, hOM, hR, hT, hX, hMx, hB⟩ : _ ∧ _ ∧ _ ∧ _ ∧ _ ∧ _ ∧ _ ∧ _ ∧ _ ∧ _ ∧ _)
  have HL := hid (⟨hn, hpre, hnb, hlw⟩ : _ ∧ _ ∧ _ ∧ _)
  have H1 := hid (⟨hM, hG1, hVX, hVM, hVZ, hS1⟩ : _ ∧ _ ∧ _ ∧ _ ∧ _ ∧ _)
  have HX : Hid (X.size = 35 ∧ Mx.size = 4) := ⟨by rw [← hX]; simp [vx_len], by rw [← hMx]; simp [mx_len]⟩
  obtain ⟨kd, hk⟩ : ∃ kd, v.kind = kd := ⟨_, rfl⟩
  have hX0 : X[0]? = some (.int .i64 kd) := by rw [← hX, ← hk]; rfl
  rw [hk] at hkd
  clear hM hL hf hn hpre hnb hN hNM hO hOM hR hT hlw hX hMx hB hG1 hVX hVM hVZ hS1 hk
  go_enter Tryz.func8, Tryz.ntmps8
  go_upto_region 1 with (with_reducible refine wpList_execW (.pointer (some ⟨((w.alloc (.cells X 24)).alloc (.cells Mx 27)).heap.size, 0, none⟩)) (((w.alloc (.cells X 24)).alloc (.cells Mx 27)).alloc (.cells z30 30)) ?_ ?_ ?_; exact exec_alloc30 rfl _; kernel_rfl)
  try simp only [Act.put, List.setIfInBounds_toArray, List.set_cons_zero, List.set_cons_succ, World.size_alloc]
  generalize ((w.alloc (.cells X 24)).alloc (.cells Mx 27)).alloc (.cells z30 30) = w1 at *
  rw [HA.out.2.2.2.2.2.2.2.2.2.2]
  try rw [show B + 1 + 1 = B + 2 from rfl]
  have M1 := hid (H1.out.1.up H1.out.2.1)
  have cm0 : w1.cell? ⟨Mb, 0, none⟩ = some pv := by rw [World.cell?, M1.out.met]; rfl
  have hlo1 : Hid (lo ≤ w1.heap.size) := by have := H1.out.2.2.2.2.2; have := HL.out.2.2.2; have := HA.out.2.2.2.2.2.2.2.2.2.2; show lo ≤ w1.heap.size; omega
  go_upto_region 2 with (at_builtin; refine wpList_append_one rfl _ _ rfl lo pv pre q w1.heap.size rfl rfl (lies_cell (lies_new w1 #[.string q] 9) 0 _ rfl) (World.ownsRow.alloc M1.out.own _) (by have := HL.out.2.1; omega) (Nat.le_trans hlo1.out (by simp)) ?_; intro pa pl pc w2 hpl ho2 hg2 hat2; have HPL := hid hpl; have P2 := hid (M1.out.path hlo1.out ho2 hg2 hat2); have e2 := (hg2.block Mb (by rw [World.size_alloc]; have := M1.out.lt ((M1.out.mm Mb).2 (.inl rfl)); omega) (fun e => M1.out.np e.symm)).trans ((Below.heap_alloc w1 _ Mb (M1.out.lt ((M1.out.mm Mb).2 (.inl rfl)))).trans M1.out.met); have c2 : w2.cell? ⟨Mb, 0, none⟩ = some pv := (by rw [World.cell?, e2]; rfl); have f2 : w2.frozen? ⟨Mb, 0, none⟩ = false := (by simp [World.frozen?, e2]); clear hpl ho2 hg2 hat2 e2)
  have P3 := hid P2.out.1
  have K3 := hid (P2.out.2.1)
  have N3 := hid (P2.out.2.2)
  clear P2 cm0 hlo1 c2 f2 M1
  generalize w2.setCell ⟨Mb, 0, none⟩ (.slice pa pl pc) = w3 at *
  have nM : Hid (∀ b, B ≤ b → ¬ M b) := fun b hb e => by have := H1.out.1.lt e; have := HA.out.2.2.2.2.2.2.2.2.2.2; omega
  have V3 : Hid (Var24f w3 B X ∧ w3.heap[B + 1]? = some (.cells Mx 27 (0, 0)) ∧ Var w3 (B + 2) z30) :=
    ⟨(K3.out.block B (by have := H1.out.2.2.2.2.2; omega) (nM.out B (Nat.le_refl _))).trans H1.out.2.2.1, (K3.out.block (B + 1) (by have := H1.out.2.2.2.2.2; omega) (nM.out _ (by omega))).trans H1.out.2.2.2.1, (K3.out.block (B + 2) (by have := H1.out.2.2.2.2.2; omega) (nM.out _ (by omega))).trans H1.out.2.2.2.2.1⟩
  have ck : w3.cell? ⟨B, 0, none⟩ = some (.int .i64 kd) := by have h : w3.heap[B]? = some (.cells X 24 (0, 0)) := V3.out.1; rw [World.cell?, h]; exact hX0
  have cw : w3.cell? ⟨Mb, 2, none⟩ = some (.bool true) := by rw [World.cell?, P3.out.met]; rfl
  have fw : w3.frozen? ⟨Mb, 2, none⟩ = false := by simp [World.frozen?, P3.out.met]
  by_cases hk1 : kd = 1
  case' pos =>
    have b1 : (kd == 1) = true := by simp [hk1]
    clear hk1 hkd
    go_upto_region 3 with fail
  case' neg =>
    have b1 : (kd == 1) = false := by simpa using hk1
    have b2 : ((n : Int) == 0) = true := by have := hkd.resolve_left hk1; simp [this]
    clear hk1 hkd
    go_upto_region 3 with fail
    clear b2
  all_goals
    have P4 := hid P3.out.well
    have hMlt : Hid (∀ b, (b = Mb ∨ (Value.slice pa pl pc).ownBlock = some b ∨ Bp b) → b < w1.heap.size → M b) := fun b e h => by
      rcases N3.out b e with k | k
      · exact k
      · omega
    have K4 := hid (K3.out.trans P4.out.2 fun b h e => hMlt.out b e h)
    have V4 : Hid (Var24f (w3.setCell ⟨Mb, 2, none⟩ (.bool true)) B X ∧ (w3.setCell ⟨Mb, 2, none⟩ (.bool true)).heap[B + 1]? = some (.cells Mx 27 (0, 0)) ∧ Var (w3.setCell ⟨Mb, 2, none⟩ (.bool true)) (B + 2) z30) :=
      ⟨(K4.out.block B (by have := H1.out.2.2.2.2.2; omega) (nM.out B (Nat.le_refl _))).trans H1.out.2.2.1, (K4.out.block (B + 1) (by have := H1.out.2.2.2.2.2; omega) (nM.out _ (by omega))).trans H1.out.2.2.2.1, (K4.out.block (B + 2) (by have := H1.out.2.2.2.2.2; omega) (nM.out _ (by omega))).trans H1.out.2.2.2.2.1⟩
    clear b1 ck cw fw P3 K3 V3
    generalize w3.setCell ⟨Mb, 2, none⟩ (.bool true) = w4 at *
    obtain ⟨CN, hCN⟩ : ∃ CN, nc ⟨#[]⟩ v m (.slice none 0 0) = CN := ⟨_, rfl⟩
    have HCN : Hid (nc ⟨#[]⟩ v m (.slice none 0 0) = CN ∧ CN.size = 41 ∧ CN.all (·.oneCell') = true) := ⟨hCN, by rw [← hCN]; exact nc_size .., by rw [← hCN]; exact nc_one _ _ _ _ rfl⟩
    clear hCN
    obtain ⟨g5, v5, s5⟩ := new_var w4 CN
    have H5 := hid (⟨g5, v5, s5⟩ : _ ∧ _ ∧ _)
    have L4 : Hid (Lies w4 B 0 X ∧ Lies w4 (B + 1) 0 Mx) := ⟨fun j u hj => by have h : w4.heap[B]? = some (.cells X 24 (0, 0)) := V4.out.1; rw [Nat.zero_add, World.cell?, h]; exact hj, fun j u hj => by rw [Nat.zero_add, World.cell?, V4.out.2.1]; exact hj⟩
    clear g5 v5 s5
    go_upto_region 4 with (first
      | ((with_reducible refine wpList_exec (.agg X) ?_ ?_ ?_); exact exec_load24 _ rfl B 0 rfl X HX.out.1 L4.out.1; kernel_rfl)
      | ((with_reducible refine wpList_exec (.agg Mx) ?_ ?_ ?_); exact exec_load27 _ rfl (B + 1) 0 rfl Mx HX.out.2 L4.out.2; kernel_rfl)
      | ((with_reducible refine wpList_exec (.agg CN) ?_ ?_ ?_); (rw [← HCN.out.1]; exact exec_build30l _ rfl v m X Mx HA.out.2.2.2.2.2.2.2.2.1 HA.out.2.2.2.2.2.2.2.2.2.1 (by go_simp) _); kernel_rfl)
      | ((with_reducible refine wpList_execW (.pointer (some ⟨w4.heap.size, 0, none⟩)) (w4.alloc (.cells z30 30)) ?_ ?_ ?_); exact exec_alloc30 rfl _; kernel_rfl)
      | ((with_reducible refine wpList_skipW ((w4.alloc (.cells z30 30)).setRow w4.heap.size CN) ?_ ?_ ?_); exact exec_store30 _ _ rfl w4.heap.size CN z30 rfl rfl _ (Var.new _ _) HCN.out.2.1 z30_size HCN.out.2.2; kernel_rfl))
    try simp only [Act.put, List.setIfInBounds_toArray, List.set_cons_zero, List.set_cons_succ]
    have HM1 : Hid (∀ b, (b = Mb ∨ (Value.slice pa pl pc).ownBlock = some b ∨ Bp b) → M b ∨ B ≤ b) := fun b e => by
      rcases N3.out b e with k | k
      · exact .inl k
      · have := H1.out.2.2.2.2.2; exact .inr (by omega)
    have HN4 : Hid (∀ b, (b = Mb ∨ (Value.slice pa pl pc).ownBlock = some b ∨ Bp b) → b ≠ B + 2 ∧ b < w4.heap.size) := fun b e => ⟨fun q => by
      have h := hMlt.out b e (by have := H1.out.2.2.2.2.2; omega)
      exact nM.out b (by omega) h, P4.out.1.lt e⟩
    have HFS : Hid (FS w ((w4.alloc (.cells z30 30)).setRow w4.heap.size CN) lo Mb K nb (B + 2) w4.heap.size (pre ++ [q]) M (fun b => b = Mb ∨ (Value.slice pa pl pc).ownBlock = some b ∨ Bp b) T (.slice pa pl pc) Bp v m (fs.pair L) 0 (.slice none 0 0) []) := by
      have hBw := HA.out.2.2.2.2.2.2.2.2.2.2
      have h4 := K4.out.size
      have h5 := H1.out.2.2.2.2.2
      refine FS.start (((Kw.of (S := M) H1.out.2.1).trans K4.out fun _ _ e => e).trans (Kw.of (S := M) H5.out.1) fun _ _ e => e) (P4.out.1.up H5.out.1) (V4.out.2.2.grow H5.out.1) (by rw [HCN.out.1]; exact H5.out.2.1) (fun b e => by rw [hBw]; exact HM1.out b e) ⟨fun e => by have := (HN4.out _ e).2; omega, fun e => (HN4.out _ e).1 rfl, by omega, by omega, HL.out.2.2.2⟩ fun b e => ?_
      have := HA.out.2.2.2.2.2.2.2.1 b e
      exact ⟨this.1.lt, this.2.2.2⟩
    clear P4 K4 V4 HCN H5 L4 HN4 hMlt N3 hX0 H1
    generalize (w4.alloc (.cells z30 30)).setRow w4.heap.size CN = w5 at *
    generalize w4.heap.size = N at *
    go_wp2_with fail
    go_loopw [14, 15] (fun i x wr => ∃ (k : Nat) (kv : Value) (ys : List Value), i = .int .i64 k ∧ k ≤ n ∧ Hid (FS w wr lo Mb K nb (B + 2) N (pre ++ [q]) M (fun b => b = Mb ∨ (Value.slice pa pl pc).ownBlock = some b ∨ Bp b) T (.slice pa pl pc) Bp v m (fs.pair L) k kv ys)) (fun i _ _ => n - iOf i)
    case atStart => exact ⟨0, _, _, rfl, Nat.zero_le _, HFS.out⟩
    case round =>
      clear HFS
      obtain ⟨k, kv, ys, rfl, hk, HI⟩ := hrel
      have hnn : n ≤ 100000 := HL.out.1
      by_cases hlt : k < n
      · have hltI : (k : Int) < (n : Int) := by omega
        obtain ⟨x, hx⟩ : ∃ x, L[k]? = some x := ⟨_, List.getElem?_eq_getElem (by rw [HA.out.1]; exact hlt)⟩
        obtain ⟨n0, v1, m1, ks, hd⟩ := F.drop_more fs k (by rw [HA.out.2.1]; exact hlt)
        obtain ⟨r', hd'⟩ := F.pair_drop hd hx
        obtain ⟨kv1, hsp, hcl⟩ := RCells.nth HA.out.2.2.2.2.2.2.1 hd
        obtain ⟨g, rfl⟩ : ∃ g, a = some ⟨g, 0, none⟩ := by
          have ho := HA.out.2.2.2.2.1
          rw [show n = (n - 1) + 1 by omega] at ho
          obtain ⟨g, cp, e⟩ := row_form ho
          injection e with e1
          exact ⟨g, e1⟩
        have hrow : wr.ownsRow lo 30 41 (.slice (some ⟨g, 0, none⟩) n cap) n xs := owns_same HA.out.2.2.2.2.1 fun b hb => HI.out.g.block b (row_cls HA.out.2.2.2.2.1 hb).1.lt (HA.out.2.2.2.2.2.1 b hb)
        obtain ⟨c0, hc0⟩ : ∃ c, nc n0 v1 m1 kv1 = c := ⟨_, rfl⟩
        obtain ⟨cx, hcx⟩ : ∃ c, nc x v1 m1 kv1 = c := ⟨_, rfl⟩
        have hk1 : kv1.oneCell' = true := by obtain ⟨a1, c1, rfl, _⟩ := hsp; rfl
        have HC : Hid (nc n0 v1 m1 kv1 = c0 ∧ nc x v1 m1 kv1 = cx ∧ c0.size = 41 ∧ c0.all (·.oneCell') = true ∧ cx.size = 41 ∧ cx.all (·.oneCell') = true) := ⟨hc0, hcx, by rw [← hc0]; exact nc_size .., by rw [← hc0]; exact nc_one _ _ _ _ hk1, by rw [← hcx]; exact nc_size .., by rw [← hcx]; exact nc_one _ _ _ _ hk1⟩
        have HLi : Hid (Lies wr g (k * 41) c0) := fun j u hj => by
          have := hrow.cells (g := g) rfl (k * 41 + j) u (hcl j u (by rw [hc0]; exact hj))
          rwa [Addr.add_mid, Nat.zero_add] at this
        have hTw : ∀ b, T b → wr.heap[b]? = w.heap[b]? := fun b hb => HI.out.g.block b (HI.out.tt b hb).1 (HI.out.tt b hb).2
        have HKi := hid (And.intro (hsp.keep fun b hb => ⟨hTw b hb, hb⟩) hd' : HasSP wr T kv1 ks ∧ _)
        obtain ⟨ad, cap', hv, hc⟩ := (OwnsT.has (lo := lo) (owns_same HA.out.2.2.2.1 fun b hb => HI.out.g.block b (row_cls HA.out.2.2.2.1 hb).1.lt (HA.out.2.2.1 b hb) : OwnsT wr lo (.slice ao n cu) L)).at hx
        obtain rfl : ao = some ad := by injection hv
        obtain ⟨g6, v6, s6⟩ := new_var wr c0
        have H6 := hid (⟨g6, v6, s6⟩ : _ ∧ _ ∧ _)
        have c6 := g6.cell hc
        clear hrow hcl hsp hd hd' hc0 hcx hk1 hTw hv hc hx g6 v6 s6
        go_upto_region 8 with (first
          | ((with_reducible refine wpList_exec (.agg c0) ?_ ?_ ?_); exact exec_load30 _ rfl g (k * 41) rfl c0 HC.out.2.2.1 HLi.out; kernel_rfl)
          | ((with_reducible refine wpList_execW (.pointer (some ⟨wr.heap.size, 0, none⟩)) (wr.alloc (.cells z30 30)) ?_ ?_ ?_); exact exec_alloc30 rfl _; kernel_rfl)
          | ((with_reducible refine wpList_skipW ((wr.alloc (.cells z30 30)).setRow wr.heap.size c0) ?_ ?_ ?_); exact exec_store30 _ _ rfl wr.heap.size c0 z30 rfl rfl _ (Var.new _ _) HC.out.2.2.1 z30_size HC.out.2.2.2.1; kernel_rfl))
        try simp only [Act.put, List.setIfInBounds_toArray, List.set_cons_zero, List.set_cons_succ]
        have HX6 : Hid (wr.heap.size ≤ wr.heap.size) := Nat.le_refl _
        generalize (wr.alloc (.cells z30 30)).setRow wr.heap.size c0 = w6 at *
        obtain ⟨X0, hX0⟩ : ∃ X0, X0 = wr.heap.size := ⟨_, rfl⟩
        rw [← hX0] at H6 ⊢
        have HX0 := hid hX0
        clear hX0 HX6
        have e60 : w6.heap[X0]? = some (.cells c0 30 (0, 0)) := H6.out.2.1
        have c60 : w6.cell? ⟨X0, 0, none⟩ = some (.string n0) := by rw [World.cell?, e60, ← HC.out.1]; exact nc_name ..
        have f60 : w6.frozen? ⟨X0, 0, none⟩ = false := by simp [World.frozen?, e60]
        clear e60
        go_upto_region 9 with fail
        have H7 : Hid (G wr (w6.setCell ⟨X0, 0, none⟩ (.string x)) ∧ Var (w6.setCell ⟨X0, 0, none⟩ (.string x)) X0 cx) := by
          refine ⟨Below.trans (B := wr.heap.size) H6.out.1 ⟨rfl, rfl, rfl, by simp, fun b hb => Below.heap_setCell _ _ _ _ (by show b ≠ X0; have := HX0.out; omega)⟩, ?_⟩
          have h := H6.out.2.1.setCell 0 (.string x)
          rw [← HC.out.1, nc_nset, HC.out.2.1] at h
          exact h
        clear c6 c60 f60 H6
        generalize w6.setCell ⟨X0, 0, none⟩ (.string x) = w7 at *
        have I7 := hid (HI.out.up H7.out.1)
        have I8 := hid (I7.out.up (G.alloc w7 (.cells cx 30)))
        have cN : w7.cell? ⟨N, 40, none⟩ = some kv := lies_cell I7.out.n.lies 40 kv (nc_kids ..)
        have hlo7 : Hid (lo ≤ (w7.alloc (.cells cx 30)).heap.size) := by have h1 := I8.out.g.size; have h2 := HL.out.2.2.2; show lo ≤ _; omega
        have HK8 := hid (⟨HKi.out.1.keep fun b hb => ⟨Below.block (H7.out.1.trans (G.alloc w7 (.cells cx 30))) b (by have := (HI.out.tt b hb).1; have := HI.out.g.size; omega), hb⟩, HKi.out.2⟩ : HasSP (w7.alloc (.cells cx 30)) T kv1 ks ∧ _)
        go_wp2_with (first
          | ((with_reducible refine wpList_exec (.agg cx) ?_ ?_ ?_); exact exec_load30 _ rfl X0 0 rfl cx HC.out.2.2.2.2.1 H7.out.2.lies; kernel_rfl)
          | ((with_reducible refine wpList_execW (.slice (some ⟨w7.heap.size, 0, none⟩) 1 1) (w7.alloc (.cells cx 30)) ?_ ?_ ?_); exact exec_slice1 _ rfl cx rfl HC.out.2.2.2.2.1 _; kernel_rfl)
          | (at_builtin; refine wpList_append_node rfl _ _ rfl lo k kv ys cx w7.heap.size rfl rfl (lies_new w7 cx 30) HC.out.2.2.2.2.1 HC.out.2.2.2.2.2 I8.out.o (by have := HL.out.1; omega) hlo7.out ?_; intro g' cap2 Wa ho hgr hat; have FP := hid (I8.out.put HK8.out.2 HK8.out.1 (by rw [HC.out.2.1]; exact ho) hgr hat); have e9 : Wa.heap[N]? = some (.cells (nc ⟨#[]⟩ v m kv) 30 (0, 0)) := (hgr.block N I8.out.n.lt (fun e => (I8.out.kb N e.symm).2.2.1 rfl)).trans I8.out.n; have c9 : Wa.cell? ⟨N, 40, none⟩ = some kv := (by rw [World.cell?, e9]; exact nc_kids ..); have f9 : Wa.frozen? ⟨N, 40, none⟩ = false := (by simp [World.frozen?, e9]); clear ho hgr hat e9))
        go_roundw
        case rel => exact ⟨k + 1, _, _, by go_num, by omega, FP.out⟩
        case measure => simp; omega
      · have hltI : ¬ (k : Int) < (n : Int) := by omega
        obtain rfl : k = n := by omega
        have hpl : pl ≤ 200000 := by have := HPL.out; have := HL.out.2.1; omega
        have I10 := hid (HI.out.up (G.drew wr))
        have cK : wr.cell? ⟨Mb, 1, none⟩ = some (.pointer (some ⟨K, 0, none⟩)) := by rw [World.cell?, HI.out.st.met]; rfl
        have cP : wr.cell? ⟨Mb, 0, none⟩ = some (.slice pa pl pc) := by rw [World.cell?, HI.out.st.met]; rfl
        have hlo10 : Hid (lo ≤ wr.drew.heap.size) := by have h1 := I10.out.g.size; have h2 := HL.out.2.2.2; show lo ≤ _; omega
        have CB := Bk.bookTextsOk wr.drew lo K nb Bp (.slice ao k cu) L (100 * pl + 1) I10.out.st.book (owns_same HA.out.2.2.2.1 fun b hb => I10.out.g.block b (row_cls HA.out.2.2.2.1 hb).1.lt (HA.out.2.2.1 b hb)) (fun b e hb => by
          rcases I10.out.m1 b (.inr (.inr hb)) with q | q
          · exact HA.out.2.2.1 b e q
          · have := (row_cls HA.out.2.2.2.1 e).1.lt; omega) (by rw [HA.out.1]; omega) (by omega) (by have := HL.out.2.2.1; omega) I10.out.st.tb
        rw [show ((100 * pl + 1 : Nat) : Int) = IntKind.i64.wrap (IntKind.i64.wrap (100 * (pl : Int)) + 1) by rw [IntKind.wrap_i64, IntKind.wrap_i64]; omega] at CB
        have CB := hid CB
        go_wp2_with fail
        go_region_held3 (fun w' => w'.cell? ⟨Mb, 1, none⟩ = some (.pointer (some ⟨K, 0, none⟩)) ∧ w'.cell? ⟨Mb, 0, none⟩ = some (.slice pa pl pc)) (first | go_keep | (refine ⟨?_, ?_⟩ <;> assumption))
          (first
            | (go_at_call 22
               refine CB.out.mono ?_
               rintro e w11 ⟨rfl, B', hBk, hbe, hb⟩
               have HT11 := hid (I10.out.book (by rw [F.pair_len _ _ (by rw [HA.out.1, HA.out.2.1])]; exact HA.out.2.1) HA.out.2.2.2.1 HA.out.2.2.1 HA.out.2.2.2.2.1 HA.out.2.2.2.2.2.1 (fun b e => by have := HA.out.2.2.2.2.2.2.2.1 b e; exact ⟨this.1, this.2.1, this.2.2.1⟩) hBk hbe hbe.size hb)
               have cK11 : w11.cell? ⟨Mb, 1, none⟩ = some (.pointer (some ⟨K, 0, none⟩)) := (by rw [World.cell?, HT11.out.1.st.met]; rfl)
               have cP11 : w11.cell? ⟨Mb, 0, none⟩ = some (.slice pa pl pc) := (by rw [World.cell?, HT11.out.1.st.met]; rfl)
               clear hBk hbe hb))
        clear cK cP hlo10 CB
        have H2 := hid HT11.out.2
        have hF1 := hid HT11.out.1
        clear HT11 cK11 cP11 HI I10
        obtain ⟨S, hS⟩ : ∃ S : Nat → Prop, S = (fun b => M b ∨ (Value.slice ao k cu).ownBlock = some b ∨ (Value.slice a k cap).ownBlock = some b) := ⟨_, rfl⟩
        obtain ⟨M2, hM2⟩ : ∃ S : Nat → Prop, S = (fun b => b = Mb ∨ (Value.slice pa pl pc).ownBlock = some b ∨ B' b) := ⟨_, rfl⟩
        rw [← hS, ← hM2] at hF1
        have HS := hid (And.intro hS hM2)
        clear hS hM2
        go_wp2_with fail
        have hw1 : IntKind.i64.wrap (100 * (pl : Int)) = 100 * (pl : Int) := by rw [IntKind.wrap_i64]; omega
        have hw2 : IntKind.i64.wrap (100 * (pl : Int) + 1) = 100 * (pl : Int) + 1 := by rw [IntKind.wrap_i64]; omega
        rw [hw1, hw2]
        clear hw1 hw2
        go_loopw [16] (fun i wz => ∃ (j : Nat) (ys' : List Value), i = .int .i64 j ∧ j ≤ k ∧ Hid (FT w wz lo Mb K (nb + 1) (B + 2) N (pre ++ [q]) S M2 T (.slice pa pl pc) B' v m (fs.pair L) kv (.slice a k cap) k ys')) (fun i _ => k - iOf i)
        case atStart => exact ⟨0, _, rfl, Nat.zero_le _, hF1.out⟩
        case round =>
          clear hF1
          obtain ⟨j, ys', rfl, hj, HJ⟩ := hrel
          by_cases hjl : j < k
          · have hjI : (j : Int) < (k : Int) := by omega
            obtain ⟨g, rfl⟩ : ∃ g, a = some ⟨g, 0, none⟩ := by
              have ho := HJ.out.o
              obtain ⟨k0, rfl⟩ : ∃ k0, k = k0 + 1 := ⟨k - 1, by omega⟩
              obtain ⟨g, cp, e⟩ := row_form ho
              injection e with e1
              exact ⟨g, e1⟩
            obtain ⟨Z, hZ⟩ : ∃ Z, z30 = Z := ⟨_, rfl⟩
            have HZZ : Hid (z30 = Z ∧ Z.size = 41 ∧ Z.all (·.oneCell') = true) := ⟨hZ, by rw [← hZ]; exact z30_size, by rw [← hZ]; exact nc_one _ _ _ _ rfl⟩
            clear hZ
            obtain ⟨hth, zs, hz⟩ := HJ.out.wipe hjl Z HZZ.out.2.1
            have HZ := hid (And.intro hth hz)
            clear hth hz
            go_wp2_with (first
              | ((with_reducible refine wpList_exec (.agg Z) ?_ ?_ ?_); (rw [← HZZ.out.1]; exact exec_build30z rfl _); kernel_rfl)
              | ((with_reducible refine wpList_skipW (wr.setCells g (j * 41) Z.toList) ?_ ?_ ?_); exact exec_store30m _ _ rfl g (j * 41) Z rfl rfl _ HZ.out.1 HZZ.out.2.1 HZZ.out.2.2; kernel_rfl))
            go_roundw
            case rel => exact ⟨j + 1, _, by go_num, by omega, HZ.out.2⟩
            case measure => simp; omega
          · have hjI : ¬ (j : Int) < (k : Int) := by omega
            obtain rfl : j = k := by omega
            have cK : wr.cell? ⟨Mb, 1, none⟩ = some (.pointer (some ⟨K, 0, none⟩)) := by rw [World.cell?, HJ.out.st.met]; rfl
            have cW : wr.cell? ⟨Mb, 2, none⟩ = some (.bool true) := by rw [World.cell?, HJ.out.st.met]; rfl
            have CH := hid (Bk.bookHoldOk wr lo K (nb + 1) B' HJ.out.st.book (by have := HL.out.2.2.1; omega))
            go_upto_region 16 with (go_at_call 23; refine CH.out.mono ?_; rintro e w12 ⟨rfl, nd, e12⟩; have HJ2 := hid (HJ.out.up (by rw [e12]; exact below_drewN (Below.refl _ _) nd : G wr w12)); have c12 : w12.cell? ⟨Mb, 2, none⟩ = some (.bool true) := (by rw [World.cell?, HJ2.out.st.met]; rfl); have f12 : w12.frozen? ⟨Mb, 2, none⟩ = false := (by simp [World.frozen?, HJ2.out.st.met]); clear e12)
            have P13 := hid HJ2.out.st.well
            have hK13 : Kw S w (w12.setCell ⟨Mb, 2, none⟩ (.bool true)) := HJ2.out.g.trans P13.out.2 fun b hb e => by
              rw [HS.out.2] at e
              rw [HS.out.1]
              rcases H2.out b e with h | h | h
              · exact .inl h
              · exact .inr (.inl h)
              · omega
            have hne : ∀ b, ¬ M2 b → (w12.setCell ⟨Mb, 2, none⟩ (.bool true)).heap[b]? = w12.heap[b]? := fun b hb => Below.heap_setCell _ _ _ _ fun e => hb (by rw [HS.out.2]; exact .inl e)
            obtain ⟨q1, q2, q3, q4, q5⟩ := HJ2.out.ne
            have HV : Hid (Var (w12.setCell ⟨Mb, 2, none⟩ (.bool true)) (B + 2) z30 ∧ Var (w12.setCell ⟨Mb, 2, none⟩ (.bool true)) N (nc ⟨#[]⟩ v m kv) ∧ HasSP (w12.setCell ⟨Mb, 2, none⟩ (.bool true)) (fun b => (T b ∨ w.heap.size ≤ b) ∧ ¬ M2 b ∧ Cls (w12.setCell ⟨Mb, 2, none⟩ (.bool true)) b ∧ b ≠ B + 2) kv (fs.pair L)) :=
              ⟨(hne _ q3).trans HJ2.out.z, (hne _ q5).trans HJ2.out.nn, HJ2.out.k.keep fun b ⟨h1, h2, h3, h4, _⟩ => ⟨hne b h2, h1, h2, h3.of (hne b h2), h4⟩⟩
            have HK13 := hid hK13
            have HR0 : Hid (¬ M2 (B + 2) ∧ w.heap.size ≤ B + 2) := ⟨q3, q2⟩
            clear hK13 hne q1 q2 q3 q4 q5 c12 f12 HJ2 HJ CH cK cW
            generalize w12.setCell ⟨Mb, 2, none⟩ (.bool true) = w13 at *
            obtain ⟨CF, hCF⟩ : ∃ C, nc ⟨#[]⟩ v m kv = C := ⟨_, rfl⟩
            have hkv : kv.oneCell' = true := by obtain ⟨a1, c1, e1, _⟩ := HV.out.2.2; rw [e1]; rfl
            have HCF : Hid (nc ⟨#[]⟩ v m kv = CF ∧ CF.size = 41 ∧ CF.all (·.oneCell') = true) := ⟨hCF, by rw [← hCF]; exact nc_size .., by rw [← hCF]; exact nc_one _ _ _ _ hkv⟩
            have HVN : Hid (Var w13 N CF) := by have := HV.out.2.1; rw [hCF] at this; exact this
            clear hCF hkv
            go_wp2_with (first
              | ((with_reducible refine wpList_exec (.agg CF) ?_ ?_ ?_); exact exec_load30 _ rfl N 0 rfl CF HCF.out.2.1 HVN.out.lies; kernel_rfl)
              | ((with_reducible refine wpList_skipW (w13.setRow (B + 2) CF) ?_ ?_ ?_); exact exec_store30 _ _ rfl (B + 2) _ z30 rfl rfl _ HV.out.1 HCF.out.2.1 z30_size HCF.out.2.2; kernel_rfl))
            refine bodyPost_ret (results_cell_row (P := Tryz.prog) (p := 12) (ty := 30) rfl _ _ (B + 2) 30 CF (0, 0) _ rfl HV.out.1.set under30 rfl (by rw [size30, HCF.out.2.1])) rfl ?_
            have hoth : ∀ b, b ≠ B + 2 → (w13.setRow (B + 2) CF).heap[b]? = w13.heap[b]? := fun b hb => setRow_other _ (B + 2) b _ hb
            have hK14 : Kw (fun b => b = B + 2) w13 (w13.setRow (B + 2) CF) := ⟨rfl, rfl, rfl, by simp, fun b _ hb => hoth b hb⟩
            have hlo : lo ≤ B + 2 := by have := HL.out.2.2.2; have := HR0.out.2; omega
            refine ⟨CF, M2, _, B', rfl, ⟨kv, HCF.out.1.symm, HV.out.2.2.keep fun b ⟨h1, h2, h3, h4⟩ => ⟨hoth b h4, h1, h2, h3.of (hoth b h4)⟩⟩, P13.out.1.keep hK14 (fun b e => by rw [e]; exact HR0.out.1) (fun b e => by rw [e]; exact hlo), ?_, fun b e => ?_⟩
            · rw [← HS.out.1]
              exact HK13.out.trans hK14 fun b hb e => by have := HR0.out.2; omega
            · rw [HS.out.2] at e
              exact H2.out b e
end Go.Proofs.YtbjjbgaomoihaaaGreatDoor
