import Derived.Test.YtlelgboklkmkdaaDFlatR
import Derived.Test.YtlelgboklkmkdaaDWalk
set_option maxRecDepth 100000
set_option maxHeartbeats 4000000
/-
  twineref13.flat by contract.
-/
namespace Go.Proofs.Ytlelgboklkmkdaa
open Go.RowKit Ch
/-- flat by contract, of a node with these kids -/
def FlatOk (ks : F) : Prop := ∀ (nm : ByteArray) (v : Vd) (m : Md) (c : Array Value) (w : World) (p : ByteArray), HasN w c nm v m ks → p.size + ks.weight ≤ 90000 →
    Calls Try.prog 33 #[.agg c, .string p] w fun e w' => ∃ g n cap, e = .returned (.slice (some ⟨g, 0, none⟩) n cap) ∧ OwnsE w' w.heap.size (.slice (some ⟨g, 0, none⟩) n cap) (⟨p, v, m⟩ :: flatK p ks) ∧ Below w.heap.size w w'
theorem row_low {w : World} {lo lo' e s n : Nat} {v : Value} {xs : List Value} (h : w.ownsRow lo e s v n xs) (hb : lo' ≤ lo) : w.ownsRow lo' e s v n xs := by
  obtain ⟨h1, h2⟩ := h
  exact ⟨h1, h2.imp id fun ⟨g, cap, cur, e, h3, r⟩ => ⟨g, cap, cur, e, by omega, r⟩⟩
theorem belowS_size (p nm : ByteArray) : (belowS p nm).size ≤ p.size + 1 + nm.size := by
  unfold belowS
  split
  · omega
  · rw [ByteArray.size_append, ByteArray.size_append]
    show p.size + 1 + nm.size ≤ _
    omega
theorem OwnsE.some {w : World} {lo : Nat} {u : Value} {e : Et} {L : List Et} (h : OwnsE w lo u (e :: L)) : ∃ g c, u = .slice (some ⟨g, 0, none⟩) (L.length + 1) c := by
  obtain ⟨_, ⟨_, e⟩ | ⟨g, cap, cur, hv, _⟩⟩ := h
  · simp at e
  · exact ⟨g, cap, hv⟩
theorem take_snoc : ∀ (f : F) (k : Nat) {nm : ByteArray} {v : Vd} {m : Md} {ks : F}, f.drop k = .cons nm v m ks (f.drop (k + 1)) → f.take (k + 1) = (f.take k).app (.cons nm v m ks .nil)
  | .nil, 0, _, _, _, _, h => by simp [F.drop] at h
  | .nil, k + 1, _, _, _, _, h => by simp [F.drop] at h
  | .cons a b c d r, 0, _, _, _, _, h => by
    simp only [F.drop, F.cons.injEq] at h
    obtain ⟨rfl, rfl, rfl, rfl, _⟩ := h
    simp [F.take, F.app]
  | .cons a b c d r, k + 1, _, _, _, _, h => by
    have := take_snoc r k (by simpa [F.drop] using h)
    rw [F.take, this]
    simp [F.take, F.app]
theorem flatK_app (p : ByteArray) : ∀ f g : F, flatK p (f.app g) = flatK p f ++ flatK p g
  | .nil, _ => rfl
  | .cons nm v m k r, g => by rw [F.app, flatK, flatK, flatK_app p r g, List.append_assoc]
theorem flat_any : ∀ (Z : Nat) (ks : F), ks.size < Z → FlatOk ks := by
  intro Z
  induction Z with
  | zero => intro f h; omega
  | succ Z ih =>
    intro ks hZ nm v m c w p ⟨kv, hc, hS⟩ hw
    obtain ⟨a, cap, rfl, _⟩ := hS.form
    obtain ⟨N, hN⟩ : ∃ N, ks.len = N := ⟨_, rfl⟩
    have hN2 : N ≤ 100000 := by have := ks.len_le_size; have := F.size_le_weight ks; omega
    rw [hN] at hc
    have hsz : c.size = 41 := by rw [hc]; exact nc_size ..
    obtain ⟨B, hB⟩ : ∃ B, w.heap.size = B := ⟨_, rfl⟩
    obtain ⟨w1, hw1⟩ : ∃ w1, w.alloc (.cells c 30) = w1 := ⟨_, rfl⟩
    have g1 : Below w.heap.size w w1 := by rw [← hw1]; exact (Below.refl _ w).alloc (Nat.le_refl _) _
    have s1 : w1.heap.size = B + 1 := by rw [← hw1]; simp [hB]
    have v1 : w1.heap[B]? = some (.cells c 30 (0, 0)) := by rw [← hw1, ← hB]; exact heap_alloc_new _ _
    have l1 : Lies w1 B 0 c := fun j u hj => by rw [Nat.zero_add]; exact (cell_of_row _ _ j _ _ _ v1).trans hj
    obtain ⟨X, hX⟩ : ∃ X, (vx v).toArray = X := ⟨_, rfl⟩
    obtain ⟨Y, hY⟩ : ∃ Y, (mx m).toArray = Y := ⟨_, rfl⟩
    have lX : Lies w1 B 1 X := by have := l1.part 1 36; rw [hc, nc_val, hX, Nat.zero_add] at this; exact this
    have lY : Lies w1 B 36 Y := by have := l1.part 36 40; rw [hc, nc_marks, hY, Nat.zero_add] at this; exact this
    have HX : Hid ((vx v).toArray = X ∧ X.size = 35 ∧ (mx m).toArray = Y ∧ Y.size = 4 ∧ Lies w1 B 1 X ∧ Lies w1 B 36 Y) := ⟨hX, by rw [← hX]; simp [vx_len], hY, by rw [← hY]; simp [mx_len], lX, lY⟩
    obtain ⟨W, hW⟩ : ∃ W, ec ⟨p, v, m⟩ = W := ⟨_, rfl⟩
    have HW : Hid (ec ⟨p, v, m⟩ = W ∧ W.size = 40) := ⟨hW, by rw [← hW]; exact ec_size _⟩
    obtain ⟨w2, hw2⟩ : ∃ w2, w1.alloc (.cells W 64) = w2 := ⟨_, rfl⟩
    have g2 : Below w1.heap.size w1 w2 := by rw [← hw2]; exact (Below.refl _ w1).alloc (Nat.le_refl _) _
    have o2 : OwnsE w2 (B + 1) (.slice (some ⟨B + 1, 0, none⟩) 1 1) [⟨p, v, m⟩] := by
      refine ⟨by rw [ecs_len], .inr ⟨B + 1, 1, W, rfl, by omega, ?_, Nat.le_refl _, by unfold maxLen; omega, by rw [HW.out.2], ?_⟩⟩
      · rw [← hw2, ← s1]; exact heap_alloc_new _ _
      · rw [List.take_of_length_le (by simp [HW.out.2])]; simp [ecs, Ch.flat, ← hW]
    have v2 : w2.heap[B]? = some (.cells c 30 (0, 0)) := (g2.block B (by omega)).trans v1
    have H2 : Hid (Below w.heap.size w w2 ∧ w2.heap[B]? = some (.cells c 30 (0, 0)) ∧ OwnsE w2 (B + 1) (.slice (some ⟨B + 1, 0, none⟩) 1 1) (⟨p, v, m⟩ :: flatK p (ks.take 0))) := ⟨Below.trans g1 (g2.mono g1.size), v2, by rw [F.take_zero]; exact o2⟩
    have HS := hid (And.intro hS (And.intro hN (And.intro hZ (And.intro hw hc))))
    have HIH := hid ih
    clear hc hS hN hZ ih g1 v1 l1 lX lY hX hY hW g2 o2 v2
    go_enter Try.func33, Try.ntmps33
    go_upto_region 2 with (first
      | ((with_reducible refine wpList_exec (.agg X) ?_ ?_ ?_); exact Ch.exec_load 24 _ rfl B 1 rfl X _ HX.out.2.2.2.2.1 under24v rfl (by rw [size24v, HX.out.2.1]); kernel_rfl)
      | ((with_reducible refine wpList_exec (.agg Y) ?_ ?_ ?_); exact exec_load27 _ rfl B 36 rfl Y HX.out.2.2.2.1 HX.out.2.2.2.2.2; kernel_rfl)
      | ((with_reducible refine wpList_exec (.agg W) ?_ ?_ ?_); exact (by rw [← HW.out.1]; exact exec_build64 _ _ _ rfl p v m rfl (by rw [HX.out.1]; rfl) (by rw [HX.out.2.2.1]; rfl) _); kernel_rfl)
      | ((with_reducible refine wpList_execW (.slice (some ⟨B + 1, 0, none⟩) 1 1) (w1.alloc (.cells W 64)) ?_ ?_ ?_); exact exec_slice64 _ rfl W rfl HW.out.2 _ _ s1; kernel_rfl))
    clear hw1 hw2 s1
    go_wp2
    go_loopg [5, 6] N (fun gh u i wr => ∃ k : Nat, k ≤ N ∧ gh = N - k ∧ i = .int .i64 (k : Int) ∧ Hid (Below w.heap.size w wr ∧ wr.heap[B]? = some (.cells c 30 (0, 0)) ∧ OwnsE wr (B + 1) u (⟨p, v, m⟩ :: flatK p (ks.take k))))
    case atStart => exact ⟨0, Nat.zero_le _, rfl, rfl, H2.out⟩
    case round =>
      clear H2
      obtain ⟨k, hk, rfl, rfl, HI⟩ := hrel
      have q40 : wr.cell? ⟨B, 40, none⟩ = some (.slice a N cap) := (cell_of_row _ _ 40 _ _ _ HI.out.2.1).trans (by rw [HS.out.2.2.2.2]; exact nc_kids ..)
      obtain ⟨g0, c0, hu⟩ := HI.out.2.2.some
      subst hu
      by_cases hlt : k < N
      · have i1 : (k : Int) < (N : Int) := by omega
        obtain ⟨g2, o2, cp, nm1, v1, m1, ks1, c1, hv1, hd1, hN1, hc1⟩ := HS.out.1.at (k := k) (by rw [HS.out.2.1]; exact hlt)
        obtain rfl : a = some ⟨g2, o2, none⟩ := by injection hv1
        clear hv1
        have hksz := F.kids_size hd1
        have hwt : 1 + nm1.size + ks1.weight ≤ ks.weight := by
          have h2 := congrArg F.weight (F.app_take_drop ks k)
          rw [F.app_weight, hd1, F.weight] at h2
          omega
        have hww := HS.out.2.2.2.1
        have hts := take_snoc ks k hd1
        have hbs := belowS_size p nm1
        have cn : wr.cell? ⟨g2, o2 + k * 41, none⟩ = some (.string nm1) := by
          obtain ⟨kv1, e1, _⟩ := hN1
          have := hc1 0 (.string nm1) (by rw [e1]; simp [nc])
          exact (HI.out.1.cell (World.block_lt_of_cell? w _ this)).trans this
        have lk : Lies wr g2 (o2 + k * 41) c1 := fun j u hj => (HI.out.1.cell (World.block_lt_of_cell? w _ (hc1 j u hj))).trans (hc1 j u hj)
        have sk : c1.size = 41 := by obtain ⟨_, rfl, _⟩ := hN1; exact nc_size ..
        have gd : Below wr.heap.size wr wr.drew := (Below.refl _ wr).drew
        have CC := HIH.out ks1 (by have := HS.out.2.2.1; omega) nm1 v1 m1 c1 wr.drew (belowS p nm1) ((hN1.below HI.out.1).below gd) (by omega)
        have hsum : (ks.take k).size + ks1.size + 1 ≤ 90000 := by
          have h2 := congrArg F.size (F.app_take_drop ks k)
          have h3 := F.size_le_weight ks
          rw [F.app_size, hd1, F.size] at h2
          omega
        go_upto_region 5 with fail
        refine regE B g2 o2 N cap k _ c1 p nm1 (belowS p nm1) (fun r => Below w.heap.size w r.w3 ∧ r.w3.heap[B]? = some (.cells c 30 (0, 0)) ∧ OwnsE r.w3 (B + 1) r.v2 (⟨p, v, m⟩ :: flatK p (ks.take (k + 1)))) _ wr rfl rfl rfl rfl rfl hlt q40 lk sk cn rfl (by omega) (by omega) ?_ ?_ ⟨undef, undef, wr, wr⟩
        · refine CC.mono ?_
          rintro e w' ⟨g, n, cq, rfl, ow, bl⟩
          have b1 : Below wr.heap.size wr w' := Below.trans gd (bl.mono gd.size)
          have ou := HI.out.2.2.up b1
          obtain ⟨gq, cc2, hn⟩ := ow.some
          have hn2 : (⟨belowS p nm1, v1, m1⟩ :: flatK (belowS p nm1) ks1 : List Et).length = n := by injection hn with _ e2 _; rw [e2]; simp
          obtain ⟨v', w3, hr, o3, gr⟩ := appE_run 60 ou ow hn2 (by have := HI.out.1.size; have := b1.size; have := (Array.getElem?_eq_some_iff.1 HI.out.2.1).1; omega) (by simp only [List.length_cons, flatK_len]; omega)
          refine ⟨⟨_, v', w', w3⟩, rfl, rfl, hr, ?_, ?_, ?_⟩
          · have s0 := HI.out.1.size
            have s1 := b1.size
            refine ⟨gr.os.trans (b1.os.trans HI.out.1.os), gr.tape.trans (b1.tape.trans HI.out.1.tape), gr.output.trans (b1.output.trans HI.out.1.output), Nat.le_trans s0 (Nat.le_trans s1 gr.size), fun b hb => (gr.block b (by omega) (fun e => ?_)).trans ((b1.block b (by omega)).trans (HI.out.1.block b hb))⟩
            have := (World.ownsRow.lt ou b e.symm).1
            omega
          · have hBl := (Array.getElem?_eq_some_iff.1 HI.out.2.1).1
            refine (gr.block B (by have := b1.size; omega) (fun e => ?_)).trans ((b1.block B hBl).trans HI.out.2.1)
            have := (World.ownsRow.lt ou B e.symm).1
            omega
          · rw [hts, flatK_app, flatK, flatK, List.append_nil]
            exact o3
        · intro r hF
          have HE := hid hF
          rw [foldE]
          clear hF CC HI q40 lk sk cn gd hd1 hN1 hc1 hts hsum hbs hwt hksz
          go_simp
          go_wp2
          go_roundg (N - (k + 1))
          case measure => omega
          case rel => exact ⟨k + 1, by omega, rfl, by go_num, HE.out⟩
      · obtain rfl : k = N := by omega
        have i1 : ¬ ((k : Int) < (k : Int)) := by omega
        have HF : Hid (Below w.heap.size w wr ∧ OwnsE wr w.heap.size (.slice (some ⟨g0, 0, none⟩) ((flatK p (ks.take k)).length + 1) c0) (⟨p, v, m⟩ :: flatK p ks)) := by
          refine ⟨HI.out.1, ?_⟩
          have h := HI.out.2.2
          have e := F.take_all ks k (by rw [HS.out.2.1]; exact Nat.le_refl _)
          rw [e] at h ⊢
          exact row_low h (by omega)
        clear HI
        go_wp2
        go_ret
        have hf := HF.out
        rw [hB] at hf
        exact ⟨_, _, _, rfl, hf.2, hf.1⟩
/-- Flat -/
theorem flat20_any (nm : ByteArray) (v : Vd) (m : Md) (ks : F) (c : Array Value) (w : World) (hN : HasN w c nm v m ks) (hw : ks.weight ≤ 90000) :
    Calls Try.prog 20 #[.agg c] w fun e w' => ∃ g n cap, e = .returned (.slice (some ⟨g, 0, none⟩) n cap) ∧ OwnsE w' w.heap.size (.slice (some ⟨g, 0, none⟩) n cap) (⟨⟨#[]⟩, v, m⟩ :: flatK ⟨#[]⟩ ks) ∧ Below w.heap.size w w' := by
  obtain ⟨B, hB⟩ : ∃ B, w.heap.size = B := ⟨_, rfl⟩
  obtain ⟨w1, hw1⟩ : ∃ w1, w.alloc (.cells c 30) = w1 := ⟨_, rfl⟩
  have g1 : Below w.heap.size w w1 := by rw [← hw1]; exact (Below.refl _ w).alloc (Nat.le_refl _) _
  have v1 : w1.heap[B]? = some (.cells c 30 (0, 0)) := by rw [← hw1, ← hB]; exact heap_alloc_new _ _
  have HL : Hid (Lies w1 B 0 c ∧ c.size = 41) := ⟨fun j u hj => by rw [Nat.zero_add]; exact (cell_of_row _ _ j _ _ _ v1).trans hj, by obtain ⟨_, rfl, _⟩ := hN; exact nc_size ..⟩
  have CC := hid (flat_any (ks.size + 1) ks (by omega) nm v m c w1 ⟨#[]⟩ (hN.below g1) (by show 0 + ks.weight ≤ 90000; omega))
  have HG := hid g1
  clear hN g1 v1
  go_enter Try.func20, Try.ntmps20
  go_wp2_with (first
    | ((with_reducible refine wpList_exec (.agg c) ?_ ?_ ?_); exact exec_load30 _ rfl B 0 rfl c HL.out.2 HL.out.1; kernel_rfl)
    | (go_at_call 33; refine CC.out.mono ?_; rintro e w2 ⟨g, n, cap, rfl, ow, bl⟩))
  go_ret
  have g1 := HG.out
  have ow2 := row_low ow (lo' := w.heap.size) g1.size
  have bl2 : Below w.heap.size w w2 := Below.trans g1 (bl.mono g1.size)
  first
    | exact ⟨g, n, cap, rfl, ow2, bl2⟩
    | (rw [hB] at ow2 bl2; exact ⟨g, n, cap, rfl, ow2, bl2⟩)
end Go.Proofs.Ytlelgboklkmkdaa
/-
  diff.Of and its iterator; given, by contract.
-/
namespace Go.Proofs.Ytlelgboklkmkdaa
open Go.RowKit Ch
/-- diff.Of -/
theorem of7_any (x y : Si) (w : World) (B : Nat) (hB : w.heap.size = B) : Calls Try.prog 7 #[siP x, siP y] w fun e w' => e = .returned (.func (.func 22) #[] #[.pointer (some ⟨B, 0, none⟩), .pointer (some ⟨B + 1, 0, none⟩)]) ∧ w' = (w.alloc (.cells #[siP x] 32)).alloc (.cells #[siP y] 32) := by
  have hmf : ∀ (fn : Fn) (first cap : Array Value) (w : World), (Instr.makeFunc fn first cap).run Try.prog w = .ok (.func fn first cap) w := fun _ _ _ _ => rfl
  obtain ⟨ax, hax⟩ : ∃ ax : Option Addr, x.map (fun q => (⟨q.p, 0, none⟩ : Addr)) = ax := ⟨_, rfl⟩
  obtain ⟨ay, hay⟩ : ∃ ay : Option Addr, y.map (fun q => (⟨q.p, 0, none⟩ : Addr)) = ay := ⟨_, rfl⟩
  have px : siP x = .pointer ax := by unfold siP; rw [hax]
  have py : siP y = .pointer ay := by unfold siP; rw [hay]
  rw [px, py]
  go_enter Try.func7, Try.ntmps7
  go_wp2
  go_ret
  exact ⟨rfl, rfl⟩
/-- all that differs -/
def difs (x y : Si) : List Cd := (dl [] x y).map toC
/-- what going through an iterator leaves -/
def IQ (J : Ys) (W : World) (M : Nat → Prop) (T : List Cd) (W' : World) : Prop := ∃ g M' qs, J g qs M' W' ∧ (g = true → qs = T) ∧ qs <+: T ∧ Kp M W W' ∧ ∀ b, M' b → M b ∨ W.heap.size ≤ b
/-- the iterator, gone through -/
theorem of1_any {lo : Nat} {J : Ys} (hJ : Yd lo J) {gf : Nat} {cap : Array Value} (eg : ∀ args w, (callFunc gf args).run Try.prog w = .ok (.enter gf args) w) {w0 : World} (hlo : w0.heap.size = lo) (x y : Si) (hY : YOk gf cap J (difs x y)) (Bt Bu : Nat) (W : World) (M : Nat → Prop) (hx : SiAt w0 x) (hy : SiAt w0 y) (bel : Below w0.heap.size w0 W) (bt : Bx W Bt 32 (siP x)) (bu : Bx W Bu 32 (siP y)) (hj : J true [] M W) (hl : siZ x + siZ y ≤ 10000) (hw : siW x + siW y ≤ 1000000) :
    Calls Try.prog 22 #[.func (.func gf) #[] cap, .pointer (some ⟨Bt, 0, none⟩), .pointer (some ⟨Bu, 0, none⟩)] W fun e W' => (∃ u, e = .returned u) ∧ IQ J W M (difs x y) W' := by
  have C := hid (walk_all hJ eg hY hlo (siZ x + siZ y + 1) [] x y (.slice none 0 0) W M [] (by omega) hx hy bel (OwnsT.nil _ _) (fun b e => by cases e) hj (by simp [difs]) (by simpa using hl) (by simpa [joinL] using hw))
  have ct := bt.cell
  have cu := bu.cell
  obtain ⟨ax, hax⟩ : ∃ ax : Option Addr, x.map (fun q => (⟨q.p, 0, none⟩ : Addr)) = ax := ⟨_, rfl⟩
  obtain ⟨ay, hay⟩ : ∃ ay : Option Addr, y.map (fun q => (⟨q.p, 0, none⟩ : Addr)) = ay := ⟨_, rfl⟩
  have px : siP x = .pointer ax := by unfold siP; rw [hax]
  have py : siP y = .pointer ay := by unfold siP; rw [hay]
  rw [px] at ct C
  rw [py] at cu C
  clear bt bu hx hy hj bel
  go_enter Try.func22, Try.ntmps22
  go_wp2_with (go_at_call 23; refine C.out.mono ?_; rintro e W' ⟨g, rfl, H⟩; have HH := hid H; clear H)
  go_end0
  obtain ⟨M', qs, h1, h2, h3, h4, h5, h6⟩ := HH.out
  exact ⟨⟨_, rfl⟩, g, M', qs, by simpa using h1, h2, h3, h4.mono (fun b _ e => by rcases e with e | e; exact e; cases e), h5⟩
/-- what given gathers: its state -/
def GJ (lo Be Bw Bo Bn : Nat) (n : Int) : Ys := fun g R M W => ∃ v, M = (fun b => b = Be ∨ b = Bw ∨ b = Bo ∨ b = Bn ∨ v.ownBlock = some b) ∧ Gv W lo Be Bw Bo Bn (!g) true v n R ∧ (g = true → (R.length : Int) ≠ n) ∧ (g = false → (R.length : Int) = n) ∧ (∀ k : Nat, k < R.length → (k : Int) ≠ n) ∧ lo ≤ W.heap.size
theorem GJ.yd {l0 lo Be Bw Bo Bn : Nat} {n : Int} (h1 : l0 ≤ Be) (h2 : l0 ≤ Bw) (h3 : l0 ≤ Bo) (h4 : l0 ≤ Bn) (h5 : l0 ≤ lo) : Yd l0 (GJ lo Be Bw Bo Bn n) := by
  constructor
  · rintro g pre M W W' S ⟨v, rfl, hG, q1, q2, q4, q3⟩ hk hS _
    have bx : ∀ {b t u}, Bx W b t u → (b = Be ∨ b = Bw ∨ b = Bo ∨ b = Bn ∨ v.ownBlock = some b) → Bx W' b t u := fun hb hm => (hk.block _ hb.lt fun e => hS _ e hm).trans hb
    refine ⟨v, rfl, ⟨bx hG.be (by simp), bx hG.bw (by simp), bx hG.bo (by simp), bx hG.bn (by simp), Bk.rowB hG.ow fun b hb => hk.block b (World.ownsRow.lt hG.ow b hb).2 fun e => hS b e (by simp [hb]), hG.l1, hG.l2, hG.l3, hG.l4, hG.d1, hG.d2, hG.d3, hG.d4, hG.d5, hG.d6⟩, q1, q2, q4, Nat.le_trans q3 hk.size⟩
  · rintro g pre M W b ⟨v, rfl, hG, q1, q2, q4, q3⟩ hm
    rcases hm with rfl | rfl | rfl | rfl | hm
    · exact ⟨h1, _, hG.be, rfl⟩
    · exact ⟨h2, _, hG.bw, rfl⟩
    · exact ⟨h3, _, hG.bo, rfl⟩
    · exact ⟨h4, _, hG.bn, rfl⟩
    · refine ⟨by have := (World.ownsRow.lt hG.ow b hm).1; omega, ?_⟩
      obtain ⟨_, q | ⟨g', cap, cur, rfl, _, hh, _⟩⟩ := hG.ow
      · rw [q.1] at hm; cases hm
      · cases hm
        exact ⟨_, hh, rfl⟩
theorem GJ.yok {lo Be Bw Bo Bn : Nat} {n : Int} {T : List Cd} (hT : T.length ≤ 50000) : YOk 24 #[.pointer (some ⟨Be, 0, none⟩), .pointer (some ⟨Bw, 0, none⟩), .pointer (some ⟨Bo, 0, none⟩), .pointer (some ⟨Bn, 0, none⟩)] (GJ lo Be Bw Bo Bn n) T := by
  rintro pre M c W ⟨v, rfl, hG, q1, q2, q4, q3⟩ hp
  have hl : pre.length ≤ 50000 := by have := hp.length_le; simp at this; omega
  refine (given1_any W lo Be Bw Bo Bn true v n pre c hG q3 hl).mono ?_
  rintro e W' ⟨v', rfl, hG', hs, ho, ht, hu, hb, hn⟩
  refine ⟨!decide (((pre.length + 1 : Nat) : Int) = n), _, rfl, ⟨v', rfl, by simpa using hG', fun h => ?_, fun h => ?_, fun k hk => ?_, by omega⟩, ⟨ho, ht, hu, hs, fun b hb' hm => hb b hb' (fun e => hm (by simp [e])) (fun e => hm (by simp [e])) (fun e => hm (by simp [e]))⟩, fun b hb' => ?_⟩
  · simp at h
    simpa using h
  · simp at h
    simpa using h
  · simp at hk
    by_cases e : k = pre.length
    · rw [e]; exact q1 rfl
    · exact q4 k (by omega)
  · rcases hb' with h | h | h | h | h
    · exact .inl (by simp [h])
    · exact .inl (by simp [h])
    · exact .inl (by simp [h])
    · exact .inl (by simp [h])
    · rcases hn b h with h | h
      · exact .inl (by simp [h])
      · exact .inr h
/-- what given answers -/
def gvR (n : Int) (T : List Cd) : List Cd := if n < 0 then T else T.take n.toNat
theorem gv_end {n : Int} {T qs : List Cd} {g : Bool} (h2 : g = false → (qs.length : Int) = n) (h3 : g = true → qs = T) (h4 : qs <+: T) (h5 : ∀ k : Nat, k < qs.length → (k : Int) ≠ n) : qs = gvR n T := by
  unfold gvR
  cases g with
  | true =>
    have e := h3 rfl
    subst e
    by_cases hneg : n < 0
    · rw [if_pos hneg]
    · rw [if_neg hneg, List.take_of_length_le]
      by_cases hlt : n.toNat < qs.length
      · exact absurd (by omega) (h5 n.toNat hlt)
      · omega
  | false =>
    have e := h2 rfl
    rw [if_neg (by omega)]
    have : n.toNat = qs.length := by omega
    rw [this]
    exact (List.prefix_iff_eq_take.1 h4)
theorem fnil (f : Fn) (a c : Array Value) (w : World) : (binOp BinOp.eql 38 (.func f a c) .nilFunc).run Try.prog w = .ok (.bool false) w := by
  have h : ∀ d : Nat, (Op.equalIn (d + 1) 38 (.func f a c) .nilFunc).run Try.prog w = .ok false w := fun d => by
    simp [Op.equalIn]
  simp only [binOp]
  simp [Op.equal, Op.maxDepth, h 9999]
/-- given: what an iterator gives, at most n -/
theorem given_any (x y : Si) (Bt Bu : Nat) (n : Int) (W : World) (hx : SiAt W x) (hy : SiAt W y) (bt : Bx W Bt 32 (siP x)) (bu : Bx W Bu 32 (siP y)) (hl : siZ x + siZ y ≤ 10000) (hw : siW x + siW y ≤ 1000000) (hT : (difs x y).length ≤ 50000) :
    Calls Try.prog 8 #[.func (.func 22) #[] #[.pointer (some ⟨Bt, 0, none⟩), .pointer (some ⟨Bu, 0, none⟩)], .int .i64 n] W fun e W' => ∃ u, e = .returned (.tuple #[u, .bool true]) ∧ OwnsR W' W.heap.size u (gvR n (difs x y)) ∧ Below W.heap.size W W' := by
  have hmf : ∀ (fn : Fn) (first cap : Array Value) (w : World), (Instr.makeFunc fn first cap).run Try.prog w = .ok (.func fn first cap) w := fun _ _ _ _ => rfl
  have hfn := fun w => fnil (.func 22) #[] #[.pointer (some ⟨Bt, 0, none⟩), .pointer (some ⟨Bu, 0, none⟩)] w
  obtain ⟨B, hB⟩ : ∃ B, W.heap.size = B := ⟨_, rfl⟩
  by_cases hn : n = 0
  · subst hn
    have e0 : gvR 0 (difs x y) = [] := by simp [gvR]
    rw [e0]
    have hb : Hid (Below W.heap.size W (W.alloc (.cells #[.int .i64 0] 3))) := (Below.refl _ W).alloc (Nat.le_refl _) _
    clear hx hy bt bu
    go_enter Try.func8, Try.ntmps8
    go_wp2
    refine bodyPost_ret (v := .tuple #[.slice none 0 0, .bool true]) (by simp [results, Try.f8, go_sem]) rfl ?_
    exact ⟨_, rfl, World.ownsRow_nil _ _ _ _, by have := hb.out; rwa [hB] at this⟩
  · have hnb : (n == 0) = false := by simp [hn]
    obtain ⟨W1, hW1⟩ : ∃ W1, (((W.alloc (.cells #[.int .i64 n] 3)).alloc (.cells #[.slice none 0 0] 35)).alloc (.cells #[.bool false] 4)).alloc (.cells #[.bool false] 4) = W1 := ⟨_, rfl⟩
    have s1 : W1.heap.size = B + 4 := by rw [← hW1, ← hB]; simp
    have g1 : Below W.heap.size W W1 := by rw [← hW1]; exact ((((Below.refl _ W).alloc (Nat.le_refl _) _).alloc (by simp) _).alloc (by simp; omega) _).alloc (by simp; omega) _
    have bn : Bx W1 B 3 (.int .i64 n) := by
      rw [← hW1, ← hB]
      exact (heap_alloc_old _ _ (by simp <;> omega)).trans ((heap_alloc_old _ _ (by simp <;> omega)).trans ((heap_alloc_old _ _ (by simp <;> omega)).trans (heap_alloc_new _ _)))
    have bo : Bx W1 (B + 1) 35 (.slice none 0 0) := by
      rw [← hW1, ← hB]
      refine (heap_alloc_old _ _ (by simp <;> omega)).trans ((heap_alloc_old _ _ (by simp <;> omega)).trans ?_)
      have := heap_alloc_new (W.alloc (.cells #[.int .i64 n] 3)) (.cells #[.slice none 0 0] 35)
      rwa [World.size_alloc] at this
    have bw : Bx W1 (B + 2) 4 (.bool false) := by
      rw [← hW1, ← hB]
      refine (heap_alloc_old _ _ (by simp <;> omega)).trans ?_
      have := heap_alloc_new ((W.alloc (.cells #[.int .i64 n] 3)).alloc (.cells #[.slice none 0 0] 35)) (.cells #[.bool false] 4)
      rwa [World.size_alloc, World.size_alloc] at this
    have be : Bx W1 (B + 3) 4 (.bool false) := by
      rw [← hW1, ← hB]
      have := heap_alloc_new (((W.alloc (.cells #[.int .i64 n] 3)).alloc (.cells #[.slice none 0 0] 35)).alloc (.cells #[.bool false] 4)) (.cells #[.bool false] 4)
      rwa [World.size_alloc, World.size_alloc, World.size_alloc] at this
    obtain ⟨W3, hW3⟩ : ∃ W3, (W1.setCell ⟨B + 2, 0, none⟩ (.bool true)).setCell ⟨B + 3, 0, none⟩ (.bool false) = W3 := ⟨_, rfl⟩
    have G3 : GJ (B + 4) (B + 3) (B + 2) (B + 1) B n true [] (fun b => b = B + 3 ∨ b = B + 2 ∨ b = B + 1 ∨ b = B ∨ (Value.slice none 0 0).ownBlock = some b) W3 := by
      refine ⟨.slice none 0 0, rfl, ⟨?_, ?_, ?_, ?_, World.ownsRow_nil _ _ _ _, by omega, by omega, by omega, by omega, by omega, by omega, by omega, by omega, by omega, by omega⟩, fun _ e => hn (by simpa using e.symm), (fun h => by cases h), (fun k hk => by simp at hk), by rw [← hW3]; simp; omega⟩
      · rw [← hW3]; exact (be.other (by omega)).set _
      · rw [← hW3]; exact (bw.set _).other (by omega)
      · rw [← hW3]; exact (bo.other (by omega)).other (by omega)
      · rw [← hW3]; exact (bn.other (by omega)).other (by omega)
    have g3 : Below W.heap.size W W3 := by rw [← hW3]; exact (g1.setCell (p := ⟨B + 2, 0, none⟩) (by show _ ≤ B + 2; omega) _).setCell (p := ⟨B + 3, 0, none⟩) (by show _ ≤ B + 3; omega) _
    have C := hid (of1_any (GJ.yd (l0 := B) (lo := B + 4) (Be := B + 3) (Bw := B + 2) (Bo := B + 1) (Bn := B) (n := n) (by omega) (by omega) (by omega) (by omega) (by omega)) (enters_of Try.func24 (by kernel_rfl) rfl) (w0 := W) hB x y (GJ.yok hT) Bt Bu W3 _ hx hy g3 ((g3.block _ bt.lt).trans bt) ((g3.block _ bu.lt).trans bu) G3 hl hw)
    have n1 := bn.cell
    have w1 : W1.cell? ⟨B + 1 + 1, 0, none⟩ = some (.bool false) := bw.cell
    have w1f : W1.frozen? ⟨B + 1 + 1, 0, none⟩ = false := bw.frozen
    have be2 := be.other (b' := B + 2) (u := .bool true) (by omega)
    have e1 : (W1.setCell ⟨B + 1 + 1, 0, none⟩ (.bool true)).cell? ⟨B + 1 + 1 + 1, 0, none⟩ = some (.bool false) := be2.cell
    have e1f : (W1.setCell ⟨B + 1 + 1, 0, none⟩ (.bool true)).frozen? ⟨B + 1 + 1 + 1, 0, none⟩ = false := be2.frozen
    have nA : (W.alloc (.cells #[.int .i64 n] 3)).cell? ⟨B, 0, none⟩ = some (.int .i64 n) := by rw [← hB]; simp
    have HG3 := hid g3
    clear hx hy bt bu bn bo bw be be2 G3 g1 g3
    go_enter Try.func8, Try.ntmps8
    go_wp2_with (go_at_call 22; refine C.out.mono ?_; rintro e W4 ⟨⟨u, rfl⟩, H⟩; have HH := hid H; clear H)
    obtain ⟨g, M', qs, ⟨v', _, hG, q1, q2, q4, q3⟩, h1, h2, h3, h4⟩ := HH.out
    obtain ⟨av, cv, hv⟩ := hG.ow.form
    subst hv
    have c6 := hG.bo.cell
    have c7 : W4.cell? ⟨B + 1 + 1, 0, none⟩ = some (.bool true) := hG.bw.cell
    have eq : qs = gvR n (difs x y) := gv_end q2 h1 h2 q4
    have FIN : Hid (OwnsR W4 (B + 4) (.slice av qs.length cv) qs ∧ Below W.heap.size W W4) := ⟨hG.ow, HG3.out.trans (h3.below HG3.out.size fun b e => by rcases e with e | e | e | e | e; all_goals first | omega | cases e)⟩
    obtain ⟨k, hk⟩ : ∃ k, qs.length = k := ⟨_, rfl⟩
    have HK := hid (And.intro hk eq)
    rw [hk] at c6 FIN
    clear hG q1 q2 q4 q3 h1 h2 h3 h4 HH eq hk
    go_wp2_with fail
    go_region
    go_wp2
    refine bodyPost_ret (v := .tuple #[.slice av k cv, .bool true]) (by simp [results, Try.f8, go_sem]) rfl ?_
    refine ⟨_, rfl, ?_, ?_⟩
    · rw [← HK.out.2]
      have h9 : OwnsR W4.drew (B + 4) (.slice av k cv) qs := OwnsR.up FIN.out.1 (Below.drews (Below.refl _ _) ⟨1, rfl⟩)
      exact row_low h9 (by omega)
    · exact Below.drews FIN.out.2 ⟨1, rfl⟩
end Go.Proofs.Ytlelgboklkmkdaa
