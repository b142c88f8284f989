import Derived.Test.YtjikkhbcbfpocaaGreatDoorSSumRest
set_option maxRecDepth 100000
set_option maxHeartbeats 6000000
namespace Go.Proofs.YtjikkhbcbfpocaaGreatDoor.Su
open Go.RowKit
theorem oP (K : Nat) (T : TypeId) (l : List Nat) (w : World) (hH : qM w K T l) (hT : Tabs w) (hl : l.length < 1152921504606846976) :
  Calls Tryz.prog 124 #[.pointer (some ⟨K, 0, none⟩)] w fun e w' => e = .returned (.agg ((Sha.sha l).map vb).toArray) ∧ Below w.heap.size w w' := by
 have HT : Hid (Tabs w) := hT
 obtain ⟨V, rst, hg, hInv, hVok, hRb⟩ := hH
 obtain ⟨n, hn⟩ : ∃ n, n = l.length := ⟨_, rfl⟩
 rw [← hn] at hg hl
 have HL : Hid (rst.length = 64) := hInv.len
 have hKs : K < w.heap.size := (gS hg)
 have HI : Hid (Sha.Inv Sha.mix l rst V ∧ vok V ∧ Bytes rst ∧ n = l.length) := ⟨hInv, hVok, hRb, hn⟩
 have HG : Hid (w.heap[K]? = some (.cells (jV V rst n) T (0, 0))) := hg
 clear hT hn hInv hVok hRb hg
 go_enter Tryz.func124, Tryz.ntmps124
 go_wp2_with fail
 obtain ⟨z, hz⟩ : ∃ z : Array Value, z = jX 32 [] := ⟨_, rfl⟩
 rw [show (Obj.cells #[Value.int .u8 0, .int .u8 0, .int .u8 0, .int .u8 0, .int .u8 0, .int .u8 0, .int .u8 0, .int .u8 0, .int .u8 0, .int .u8 0, .int .u8 0, .int .u8 0, .int .u8 0, .int .u8 0, .int .u8 0, .int .u8 0, .int .u8 0, .int .u8 0, .int .u8 0, .int .u8 0, .int .u8 0, .int .u8 0, .int .u8 0, .int .u8 0, .int .u8 0, .int .u8 0, .int .u8 0, .int .u8 0, .int .u8 0, .int .u8 0, .int .u8 0, .int .u8 0] 22) = Obj.cells z 22 by rw [hz]; rfl]
 generalize hw0 : w.alloc (Obj.cells z 22) = w0
 have HS : Hid (St w0 w0 K T V rst n none none false false ∧ w0.heap.size = w.heap.size + 1 ∧ Below w.heap.size w w0 ∧ w0.heap[w.heap.size]? = some (.cells (jX 32 []) 22 (0, 0))) := by
  rw [← hw0, ← hz]
  refine ⟨⟨?_, Below.refl _ _, fun g e => by (cases e), fun g e => by (cases e), fun g g' e => by (cases e)⟩, by simp, (Below.refl _ w).alloc (Nat.le_refl _) _, heap_alloc_new _ _⟩
  rw [heap_alloc_old _ _ hKs]; exact HG.out
 have HKS : Hid (K < w0.heap.size) := by rw [← hw0]; show K < _; simp; omega
 clear hw0 hz
 go_cut [3, 4] from 7 (fun s3 s4 wf => ∃ g3 g4, s3 = .pointer (some ⟨g3, 0, none⟩) ∧ s4 = .pointer (some ⟨g4, 0, none⟩) ∧ Hid (St w0 wf K T V rst n (some g3) (some g4) true true))
 case first =>
  refine wp_region_any (by kernel_rfl) ?_
  change wpAny _ _ _ _ _ _ _ (World.drew _)
  have hS : St w0 (w0.drew) K T V rst n none none false false := ⟨HS.out.1.hash, ⟨rfl, rfl, rfl, Nat.le_refl _, fun _ _ => rfl⟩, fun g e => by (cases e), fun g e => by (cases e), fun g g' e => by (cases e)⟩
  refine tA 0 (.pointer (some ⟨K, 0, none⟩)) ?_ ?_
  ·intro wz; go_simp
  refine tA 1 (.pointer (some ⟨K, 0, none⟩)) ?_ ?_
  ·intro wz; go_simp
  refine tA 2 (.pointer (some ⟨K, 0, none⟩)) ?_ ?_
  ·intro wz; go_simp
  refine tA 4 (.pointer (some ⟨K, 0, none⟩)) ?_ ?_
  ·intro wz; go_simp
  refine tA 5 (.pointer (some ⟨K, 0, none⟩)) ?_ ?_
  ·intro wz; go_simp
  refine tA 6 (.pointer (some ⟨K, 8, none⟩)) ?_ ?_
  ·intro wz; go_simp
  simp only [Act.put, sD, sE, sF, sA, sB, sC]
  refine rA [3, 7, 8, 9] ?_
  refine (ju hS rfl rfl (.tmp 9) rfl rfl ?_ (jW hS HL.out rfl rfl (.tmp 13) rfl rfl ?_ (je hS rfl rfl rfl (fun _ h1 => ?_) (jf hS rfl rfl rfl (fun _ h2 => ?_) AllReady.nil))))
  ·simp only [Act.put, sD, sE, sF, sA, sB, sC]
   refine rA [7, 8, 9] ?_
   refine (jW hS HL.out rfl rfl (.tmp 13) rfl rfl ?_ (je hS rfl rfl rfl (fun _ h3 => ?_) (jf hS rfl rfl rfl (fun _ h4 => ?_) AllReady.nil)))
   ·simp only [Act.put, sD, sE, sF, sA, sB, sC]
    refine rA [8, 9] ?_
    refine (je hS rfl rfl rfl (fun _ h5 => ?_) (jf hS rfl rfl rfl (fun _ h6 => ?_) AllReady.nil))
    ·simp only [Act.put, sD, sE, sF, sA, sB, sC]
     refine rA [9] ?_
     refine (jf h5 rfl rfl rfl (fun _ h7 => ?_) AllReady.nil)
     simp only [Act.put, sD, sE, sF, sA, sB, sC]
     refine rA [10] ?_
     refine (jK h7 HKS.out rfl rfl (.tmp 3) (.tmp 10) rfl rfl rfl (fun _ h8 => ?_) AllReady.nil)
     simp only [Act.put, sD, sE, sF]
     refine rA [11] ?_
     refine (jL h8 HKS.out HL.out rfl rfl (.tmp 4) (.tmp 14) rfl rfl rfl (fun _ h9 => ?_) AllReady.nil)
     refine dA ?_
     go_wp2_with fail
     go_meet
     case rel => exact ⟨_, _, rfl, rfl, h9⟩
    ·simp only [Act.put, sD, sE, sF, sA, sB, sC]
     refine rA [8] ?_
     refine (je h6 rfl rfl rfl (fun _ h10 => ?_) AllReady.nil)
     simp only [Act.put, sD, sE, sF, sA, sB, sC]
     refine rA [10] ?_
     refine (jK h10 HKS.out rfl rfl (.tmp 3) (.tmp 10) rfl rfl rfl (fun _ h11 => ?_) AllReady.nil)
     simp only [Act.put, sD, sE, sF]
     refine rA [11] ?_
     refine (jL h11 HKS.out HL.out rfl rfl (.tmp 4) (.tmp 14) rfl rfl rfl (fun _ h12 => ?_) AllReady.nil)
     refine dA ?_
     go_wp2_with fail
     go_meet
     case rel => exact ⟨_, _, rfl, rfl, h12⟩
   ·simp only [Act.put, sD, sE, sF, sA, sB, sC]
    refine rA [7, 9] ?_
    refine (jW h3 HL.out rfl rfl (.tmp 13) rfl rfl ?_ (jf h3 rfl rfl rfl (fun _ h13 => ?_) AllReady.nil))
    ·simp only [Act.put, sD, sE, sF, sA, sB, sC]
     refine rA [9] ?_
     refine (jf h3 rfl rfl rfl (fun _ h14 => ?_) AllReady.nil)
     simp only [Act.put, sD, sE, sF, sA, sB, sC]
     refine rA [10] ?_
     refine (jK h14 HKS.out rfl rfl (.tmp 3) (.tmp 10) rfl rfl rfl (fun _ h15 => ?_) AllReady.nil)
     simp only [Act.put, sD, sE, sF]
     refine rA [11] ?_
     refine (jL h15 HKS.out HL.out rfl rfl (.tmp 4) (.tmp 14) rfl rfl rfl (fun _ h16 => ?_) AllReady.nil)
     refine dA ?_
     go_wp2_with fail
     go_meet
     case rel => exact ⟨_, _, rfl, rfl, h16⟩
    ·simp only [Act.put, sD, sE, sF, sA, sB, sC]
     refine rA [7, 10] ?_
     refine (jW h13 HL.out rfl rfl (.tmp 13) rfl rfl ?_ (jK h13 HKS.out rfl rfl (.tmp 3) (.tmp 10) rfl rfl rfl (fun _ h17 => ?_) AllReady.nil))
     ·simp only [Act.put, sD, sE, sF, sA, sB, sC]
      refine rA [10] ?_
      refine (jK h13 HKS.out rfl rfl (.tmp 3) (.tmp 10) rfl rfl rfl (fun _ h18 => ?_) AllReady.nil)
      simp only [Act.put, sD, sE, sF]
      refine rA [11] ?_
      refine (jL h18 HKS.out HL.out rfl rfl (.tmp 4) (.tmp 14) rfl rfl rfl (fun _ h19 => ?_) AllReady.nil)
      refine dA ?_
      go_wp2_with fail
      go_meet
      case rel => exact ⟨_, _, rfl, rfl, h19⟩
     ·simp only [Act.put, sD, sE, sF]
      refine rA [7] ?_
      refine (jW h17 HL.out rfl rfl (.tmp 13) rfl rfl ?_ AllReady.nil)
      simp only [Act.put, sD, sE, sF, sA, sB, sC]
      refine rA [11] ?_
      refine (jL h17 HKS.out HL.out rfl rfl (.tmp 4) (.tmp 14) rfl rfl rfl (fun _ h20 => ?_) AllReady.nil)
      refine dA ?_
      go_wp2_with fail
      go_meet
      case rel => exact ⟨_, _, rfl, rfl, h20⟩
   ·simp only [Act.put, sD, sE, sF, sA, sB, sC]
    refine rA [7, 8] ?_
    refine (jW h4 HL.out rfl rfl (.tmp 13) rfl rfl ?_ (je h4 rfl rfl rfl (fun _ h21 => ?_) AllReady.nil))
    ·simp only [Act.put, sD, sE, sF, sA, sB, sC]
     refine rA [8] ?_
     refine (je h4 rfl rfl rfl (fun _ h22 => ?_) AllReady.nil)
     simp only [Act.put, sD, sE, sF, sA, sB, sC]
     refine rA [10] ?_
     refine (jK h22 HKS.out rfl rfl (.tmp 3) (.tmp 10) rfl rfl rfl (fun _ h23 => ?_) AllReady.nil)
     simp only [Act.put, sD, sE, sF]
     refine rA [11] ?_
     refine (jL h23 HKS.out HL.out rfl rfl (.tmp 4) (.tmp 14) rfl rfl rfl (fun _ h24 => ?_) AllReady.nil)
     refine dA ?_
     go_wp2_with fail
     go_meet
     case rel => exact ⟨_, _, rfl, rfl, h24⟩
    ·simp only [Act.put, sD, sE, sF, sA, sB, sC]
     refine rA [7, 10] ?_
     refine (jW h21 HL.out rfl rfl (.tmp 13) rfl rfl ?_ (jK h21 HKS.out rfl rfl (.tmp 3) (.tmp 10) rfl rfl rfl (fun _ h25 => ?_) AllReady.nil))
     ·simp only [Act.put, sD, sE, sF, sA, sB, sC]
      refine rA [10] ?_
      refine (jK h21 HKS.out rfl rfl (.tmp 3) (.tmp 10) rfl rfl rfl (fun _ h26 => ?_) AllReady.nil)
      simp only [Act.put, sD, sE, sF]
      refine rA [11] ?_
      refine (jL h26 HKS.out HL.out rfl rfl (.tmp 4) (.tmp 14) rfl rfl rfl (fun _ h27 => ?_) AllReady.nil)
      refine dA ?_
      go_wp2_with fail
      go_meet
      case rel => exact ⟨_, _, rfl, rfl, h27⟩
     ·simp only [Act.put, sD, sE, sF]
      refine rA [7] ?_
      refine (jW h25 HL.out rfl rfl (.tmp 13) rfl rfl ?_ AllReady.nil)
      simp only [Act.put, sD, sE, sF, sA, sB, sC]
      refine rA [11] ?_
      refine (jL h25 HKS.out HL.out rfl rfl (.tmp 4) (.tmp 14) rfl rfl rfl (fun _ h28 => ?_) AllReady.nil)
      refine dA ?_
      go_wp2_with fail
      go_meet
      case rel => exact ⟨_, _, rfl, rfl, h28⟩
  ·simp only [Act.put, sD, sE, sF, sA, sB, sC]
   refine rA [3, 8, 9] ?_
   refine (ju hS rfl rfl (.tmp 9) rfl rfl ?_ (je hS rfl rfl rfl (fun _ h29 => ?_) (jf hS rfl rfl rfl (fun _ h30 => ?_) AllReady.nil)))
   ·simp only [Act.put, sD, sE, sF, sA, sB, sC]
    refine rA [8, 9] ?_
    refine (je hS rfl rfl rfl (fun _ h31 => ?_) (jf hS rfl rfl rfl (fun _ h32 => ?_) AllReady.nil))
    ·simp only [Act.put, sD, sE, sF, sA, sB, sC]
     refine rA [9] ?_
     refine (jf h31 rfl rfl rfl (fun _ h33 => ?_) AllReady.nil)
     simp only [Act.put, sD, sE, sF, sA, sB, sC]
     refine rA [10] ?_
     refine (jK h33 HKS.out rfl rfl (.tmp 3) (.tmp 10) rfl rfl rfl (fun _ h34 => ?_) AllReady.nil)
     simp only [Act.put, sD, sE, sF]
     refine rA [11] ?_
     refine (jL h34 HKS.out HL.out rfl rfl (.tmp 4) (.tmp 14) rfl rfl rfl (fun _ h35 => ?_) AllReady.nil)
     refine dA ?_
     go_wp2_with fail
     go_meet
     case rel => exact ⟨_, _, rfl, rfl, h35⟩
    ·simp only [Act.put, sD, sE, sF, sA, sB, sC]
     refine rA [8] ?_
     refine (je h32 rfl rfl rfl (fun _ h36 => ?_) AllReady.nil)
     simp only [Act.put, sD, sE, sF, sA, sB, sC]
     refine rA [10] ?_
     refine (jK h36 HKS.out rfl rfl (.tmp 3) (.tmp 10) rfl rfl rfl (fun _ h37 => ?_) AllReady.nil)
     simp only [Act.put, sD, sE, sF]
     refine rA [11] ?_
     refine (jL h37 HKS.out HL.out rfl rfl (.tmp 4) (.tmp 14) rfl rfl rfl (fun _ h38 => ?_) AllReady.nil)
     refine dA ?_
     go_wp2_with fail
     go_meet
     case rel => exact ⟨_, _, rfl, rfl, h38⟩
   ·simp only [Act.put, sD, sE, sF, sA, sB, sC]
    refine rA [3, 9] ?_
    refine (ju h29 rfl rfl (.tmp 9) rfl rfl ?_ (jf h29 rfl rfl rfl (fun _ h39 => ?_) AllReady.nil))
    ·simp only [Act.put, sD, sE, sF, sA, sB, sC]
     refine rA [9] ?_
     refine (jf h29 rfl rfl rfl (fun _ h40 => ?_) AllReady.nil)
     simp only [Act.put, sD, sE, sF, sA, sB, sC]
     refine rA [10] ?_
     refine (jK h40 HKS.out rfl rfl (.tmp 3) (.tmp 10) rfl rfl rfl (fun _ h41 => ?_) AllReady.nil)
     simp only [Act.put, sD, sE, sF]
     refine rA [11] ?_
     refine (jL h41 HKS.out HL.out rfl rfl (.tmp 4) (.tmp 14) rfl rfl rfl (fun _ h42 => ?_) AllReady.nil)
     refine dA ?_
     go_wp2_with fail
     go_meet
     case rel => exact ⟨_, _, rfl, rfl, h42⟩
    ·simp only [Act.put, sD, sE, sF, sA, sB, sC]
     refine rA [3] ?_
     refine (ju h39 rfl rfl (.tmp 9) rfl rfl ?_ AllReady.nil)
     simp only [Act.put, sD, sE, sF, sA, sB, sC]
     refine rA [10] ?_
     refine (jK h39 HKS.out rfl rfl (.tmp 3) (.tmp 10) rfl rfl rfl (fun _ h43 => ?_) AllReady.nil)
     simp only [Act.put, sD, sE, sF]
     refine rA [11] ?_
     refine (jL h43 HKS.out HL.out rfl rfl (.tmp 4) (.tmp 14) rfl rfl rfl (fun _ h44 => ?_) AllReady.nil)
     refine dA ?_
     go_wp2_with fail
     go_meet
     case rel => exact ⟨_, _, rfl, rfl, h44⟩
   ·simp only [Act.put, sD, sE, sF, sA, sB, sC]
    refine rA [3, 8] ?_
    refine (ju h30 rfl rfl (.tmp 9) rfl rfl ?_ (je h30 rfl rfl rfl (fun _ h45 => ?_) AllReady.nil))
    ·simp only [Act.put, sD, sE, sF, sA, sB, sC]
     refine rA [8] ?_
     refine (je h30 rfl rfl rfl (fun _ h46 => ?_) AllReady.nil)
     simp only [Act.put, sD, sE, sF, sA, sB, sC]
     refine rA [10] ?_
     refine (jK h46 HKS.out rfl rfl (.tmp 3) (.tmp 10) rfl rfl rfl (fun _ h47 => ?_) AllReady.nil)
     simp only [Act.put, sD, sE, sF]
     refine rA [11] ?_
     refine (jL h47 HKS.out HL.out rfl rfl (.tmp 4) (.tmp 14) rfl rfl rfl (fun _ h48 => ?_) AllReady.nil)
     refine dA ?_
     go_wp2_with fail
     go_meet
     case rel => exact ⟨_, _, rfl, rfl, h48⟩
    ·simp only [Act.put, sD, sE, sF, sA, sB, sC]
     refine rA [3] ?_
     refine (ju h45 rfl rfl (.tmp 9) rfl rfl ?_ AllReady.nil)
     simp only [Act.put, sD, sE, sF, sA, sB, sC]
     refine rA [10] ?_
     refine (jK h45 HKS.out rfl rfl (.tmp 3) (.tmp 10) rfl rfl rfl (fun _ h49 => ?_) AllReady.nil)
     simp only [Act.put, sD, sE, sF]
     refine rA [11] ?_
     refine (jL h49 HKS.out HL.out rfl rfl (.tmp 4) (.tmp 14) rfl rfl rfl (fun _ h50 => ?_) AllReady.nil)
     refine dA ?_
     go_wp2_with fail
     go_meet
     case rel => exact ⟨_, _, rfl, rfl, h50⟩
  ·simp only [Act.put, sD, sE, sF, sA, sB, sC]
   refine rA [3, 7, 9] ?_
   refine (ju h1 rfl rfl (.tmp 9) rfl rfl ?_ (jW h1 HL.out rfl rfl (.tmp 13) rfl rfl ?_ (jf h1 rfl rfl rfl (fun _ h51 => ?_) AllReady.nil)))
   ·simp only [Act.put, sD, sE, sF, sA, sB, sC]
    refine rA [7, 9] ?_
    refine (jW h1 HL.out rfl rfl (.tmp 13) rfl rfl ?_ (jf h1 rfl rfl rfl (fun _ h52 => ?_) AllReady.nil))
    ·simp only [Act.put, sD, sE, sF, sA, sB, sC]
     refine rA [9] ?_
     refine (jf h1 rfl rfl rfl (fun _ h53 => ?_) AllReady.nil)
     simp only [Act.put, sD, sE, sF, sA, sB, sC]
     refine rA [10] ?_
     refine (jK h53 HKS.out rfl rfl (.tmp 3) (.tmp 10) rfl rfl rfl (fun _ h54 => ?_) AllReady.nil)
     simp only [Act.put, sD, sE, sF]
     refine rA [11] ?_
     refine (jL h54 HKS.out HL.out rfl rfl (.tmp 4) (.tmp 14) rfl rfl rfl (fun _ h55 => ?_) AllReady.nil)
     refine dA ?_
     go_wp2_with fail
     go_meet
     case rel => exact ⟨_, _, rfl, rfl, h55⟩
    ·simp only [Act.put, sD, sE, sF, sA, sB, sC]
     refine rA [7, 10] ?_
     refine (jW h52 HL.out rfl rfl (.tmp 13) rfl rfl ?_ (jK h52 HKS.out rfl rfl (.tmp 3) (.tmp 10) rfl rfl rfl (fun _ h56 => ?_) AllReady.nil))
     ·simp only [Act.put, sD, sE, sF, sA, sB, sC]
      refine rA [10] ?_
      refine (jK h52 HKS.out rfl rfl (.tmp 3) (.tmp 10) rfl rfl rfl (fun _ h57 => ?_) AllReady.nil)
      simp only [Act.put, sD, sE, sF]
      refine rA [11] ?_
      refine (jL h57 HKS.out HL.out rfl rfl (.tmp 4) (.tmp 14) rfl rfl rfl (fun _ h58 => ?_) AllReady.nil)
      refine dA ?_
      go_wp2_with fail
      go_meet
      case rel => exact ⟨_, _, rfl, rfl, h58⟩
     ·simp only [Act.put, sD, sE, sF]
      refine rA [7] ?_
      refine (jW h56 HL.out rfl rfl (.tmp 13) rfl rfl ?_ AllReady.nil)
      simp only [Act.put, sD, sE, sF, sA, sB, sC]
      refine rA [11] ?_
      refine (jL h56 HKS.out HL.out rfl rfl (.tmp 4) (.tmp 14) rfl rfl rfl (fun _ h59 => ?_) AllReady.nil)
      refine dA ?_
      go_wp2_with fail
      go_meet
      case rel => exact ⟨_, _, rfl, rfl, h59⟩
   ·simp only [Act.put, sD, sE, sF, sA, sB, sC]
    refine rA [3, 9] ?_
    refine (ju h1 rfl rfl (.tmp 9) rfl rfl ?_ (jf h1 rfl rfl rfl (fun _ h60 => ?_) AllReady.nil))
    ·simp only [Act.put, sD, sE, sF, sA, sB, sC]
     refine rA [9] ?_
     refine (jf h1 rfl rfl rfl (fun _ h61 => ?_) AllReady.nil)
     simp only [Act.put, sD, sE, sF, sA, sB, sC]
     refine rA [10] ?_
     refine (jK h61 HKS.out rfl rfl (.tmp 3) (.tmp 10) rfl rfl rfl (fun _ h62 => ?_) AllReady.nil)
     simp only [Act.put, sD, sE, sF]
     refine rA [11] ?_
     refine (jL h62 HKS.out HL.out rfl rfl (.tmp 4) (.tmp 14) rfl rfl rfl (fun _ h63 => ?_) AllReady.nil)
     refine dA ?_
     go_wp2_with fail
     go_meet
     case rel => exact ⟨_, _, rfl, rfl, h63⟩
    ·simp only [Act.put, sD, sE, sF, sA, sB, sC]
     refine rA [3] ?_
     refine (ju h60 rfl rfl (.tmp 9) rfl rfl ?_ AllReady.nil)
     simp only [Act.put, sD, sE, sF, sA, sB, sC]
     refine rA [10] ?_
     refine (jK h60 HKS.out rfl rfl (.tmp 3) (.tmp 10) rfl rfl rfl (fun _ h64 => ?_) AllReady.nil)
     simp only [Act.put, sD, sE, sF]
     refine rA [11] ?_
     refine (jL h64 HKS.out HL.out rfl rfl (.tmp 4) (.tmp 14) rfl rfl rfl (fun _ h65 => ?_) AllReady.nil)
     refine dA ?_
     go_wp2_with fail
     go_meet
     case rel => exact ⟨_, _, rfl, rfl, h65⟩
   ·simp only [Act.put, sD, sE, sF, sA, sB, sC]
    refine rA [3, 7] ?_
    refine (ju h51 rfl rfl (.tmp 9) rfl rfl ?_ (jW h51 HL.out rfl rfl (.tmp 13) rfl rfl ?_ AllReady.nil))
    ·simp only [Act.put, sD, sE, sF, sA, sB, sC]
     refine rA [7, 10] ?_
     refine (jW h51 HL.out rfl rfl (.tmp 13) rfl rfl ?_ (jK h51 HKS.out rfl rfl (.tmp 3) (.tmp 10) rfl rfl rfl (fun _ h66 => ?_) AllReady.nil))
     ·simp only [Act.put, sD, sE, sF, sA, sB, sC]
      refine rA [10] ?_
      refine (jK h51 HKS.out rfl rfl (.tmp 3) (.tmp 10) rfl rfl rfl (fun _ h67 => ?_) AllReady.nil)
      simp only [Act.put, sD, sE, sF]
      refine rA [11] ?_
      refine (jL h67 HKS.out HL.out rfl rfl (.tmp 4) (.tmp 14) rfl rfl rfl (fun _ h68 => ?_) AllReady.nil)
      refine dA ?_
      go_wp2_with fail
      go_meet
      case rel => exact ⟨_, _, rfl, rfl, h68⟩
     ·simp only [Act.put, sD, sE, sF]
      refine rA [7] ?_
      refine (jW h66 HL.out rfl rfl (.tmp 13) rfl rfl ?_ AllReady.nil)
      simp only [Act.put, sD, sE, sF, sA, sB, sC]
      refine rA [11] ?_
      refine (jL h66 HKS.out HL.out rfl rfl (.tmp 4) (.tmp 14) rfl rfl rfl (fun _ h69 => ?_) AllReady.nil)
      refine dA ?_
      go_wp2_with fail
      go_meet
      case rel => exact ⟨_, _, rfl, rfl, h69⟩
    ·simp only [Act.put, sD, sE, sF, sA, sB, sC]
     refine rA [3] ?_
     refine (ju h51 rfl rfl (.tmp 9) rfl rfl ?_ AllReady.nil)
     simp only [Act.put, sD, sE, sF, sA, sB, sC]
     refine rA [10] ?_
     refine (jK h51 HKS.out rfl rfl (.tmp 3) (.tmp 10) rfl rfl rfl (fun _ h70 => ?_) AllReady.nil)
     simp only [Act.put, sD, sE, sF]
     refine rA [11] ?_
     refine (jL h70 HKS.out HL.out rfl rfl (.tmp 4) (.tmp 14) rfl rfl rfl (fun _ h71 => ?_) AllReady.nil)
     refine dA ?_
     go_wp2_with fail
     go_meet
     case rel => exact ⟨_, _, rfl, rfl, h71⟩
  ·simp only [Act.put, sD, sE, sF, sA, sB, sC]
   refine rA [3, 7, 8] ?_
   refine (ju h2 rfl rfl (.tmp 9) rfl rfl ?_ (jW h2 HL.out rfl rfl (.tmp 13) rfl rfl ?_ (je h2 rfl rfl rfl (fun _ h72 => ?_) AllReady.nil)))
   ·simp only [Act.put, sD, sE, sF, sA, sB, sC]
    refine rA [7, 8] ?_
    refine (jW h2 HL.out rfl rfl (.tmp 13) rfl rfl ?_ (je h2 rfl rfl rfl (fun _ h73 => ?_) AllReady.nil))
    ·simp only [Act.put, sD, sE, sF, sA, sB, sC]
     refine rA [8] ?_
     refine (je h2 rfl rfl rfl (fun _ h74 => ?_) AllReady.nil)
     simp only [Act.put, sD, sE, sF, sA, sB, sC]
     refine rA [10] ?_
     refine (jK h74 HKS.out rfl rfl (.tmp 3) (.tmp 10) rfl rfl rfl (fun _ h75 => ?_) AllReady.nil)
     simp only [Act.put, sD, sE, sF]
     refine rA [11] ?_
     refine (jL h75 HKS.out HL.out rfl rfl (.tmp 4) (.tmp 14) rfl rfl rfl (fun _ h76 => ?_) AllReady.nil)
     refine dA ?_
     go_wp2_with fail
     go_meet
     case rel => exact ⟨_, _, rfl, rfl, h76⟩
    ·simp only [Act.put, sD, sE, sF, sA, sB, sC]
     refine rA [7, 10] ?_
     refine (jW h73 HL.out rfl rfl (.tmp 13) rfl rfl ?_ (jK h73 HKS.out rfl rfl (.tmp 3) (.tmp 10) rfl rfl rfl (fun _ h77 => ?_) AllReady.nil))
     ·simp only [Act.put, sD, sE, sF, sA, sB, sC]
      refine rA [10] ?_
      refine (jK h73 HKS.out rfl rfl (.tmp 3) (.tmp 10) rfl rfl rfl (fun _ h78 => ?_) AllReady.nil)
      simp only [Act.put, sD, sE, sF]
      refine rA [11] ?_
      refine (jL h78 HKS.out HL.out rfl rfl (.tmp 4) (.tmp 14) rfl rfl rfl (fun _ h79 => ?_) AllReady.nil)
      refine dA ?_
      go_wp2_with fail
      go_meet
      case rel => exact ⟨_, _, rfl, rfl, h79⟩
     ·simp only [Act.put, sD, sE, sF]
      refine rA [7] ?_
      refine (jW h77 HL.out rfl rfl (.tmp 13) rfl rfl ?_ AllReady.nil)
      simp only [Act.put, sD, sE, sF, sA, sB, sC]
      refine rA [11] ?_
      refine (jL h77 HKS.out HL.out rfl rfl (.tmp 4) (.tmp 14) rfl rfl rfl (fun _ h80 => ?_) AllReady.nil)
      refine dA ?_
      go_wp2_with fail
      go_meet
      case rel => exact ⟨_, _, rfl, rfl, h80⟩
   ·simp only [Act.put, sD, sE, sF, sA, sB, sC]
    refine rA [3, 8] ?_
    refine (ju h2 rfl rfl (.tmp 9) rfl rfl ?_ (je h2 rfl rfl rfl (fun _ h81 => ?_) AllReady.nil))
    ·simp only [Act.put, sD, sE, sF, sA, sB, sC]
     refine rA [8] ?_
     refine (je h2 rfl rfl rfl (fun _ h82 => ?_) AllReady.nil)
     simp only [Act.put, sD, sE, sF, sA, sB, sC]
     refine rA [10] ?_
     refine (jK h82 HKS.out rfl rfl (.tmp 3) (.tmp 10) rfl rfl rfl (fun _ h83 => ?_) AllReady.nil)
     simp only [Act.put, sD, sE, sF]
     refine rA [11] ?_
     refine (jL h83 HKS.out HL.out rfl rfl (.tmp 4) (.tmp 14) rfl rfl rfl (fun _ h84 => ?_) AllReady.nil)
     refine dA ?_
     go_wp2_with fail
     go_meet
     case rel => exact ⟨_, _, rfl, rfl, h84⟩
    ·simp only [Act.put, sD, sE, sF, sA, sB, sC]
     refine rA [3] ?_
     refine (ju h81 rfl rfl (.tmp 9) rfl rfl ?_ AllReady.nil)
     simp only [Act.put, sD, sE, sF, sA, sB, sC]
     refine rA [10] ?_
     refine (jK h81 HKS.out rfl rfl (.tmp 3) (.tmp 10) rfl rfl rfl (fun _ h85 => ?_) AllReady.nil)
     simp only [Act.put, sD, sE, sF]
     refine rA [11] ?_
     refine (jL h85 HKS.out HL.out rfl rfl (.tmp 4) (.tmp 14) rfl rfl rfl (fun _ h86 => ?_) AllReady.nil)
     refine dA ?_
     go_wp2_with fail
     go_meet
     case rel => exact ⟨_, _, rfl, rfl, h86⟩
   ·simp only [Act.put, sD, sE, sF, sA, sB, sC]
    refine rA [3, 7] ?_
    refine (ju h72 rfl rfl (.tmp 9) rfl rfl ?_ (jW h72 HL.out rfl rfl (.tmp 13) rfl rfl ?_ AllReady.nil))
    ·simp only [Act.put, sD, sE, sF, sA, sB, sC]
     refine rA [7, 10] ?_
     refine (jW h72 HL.out rfl rfl (.tmp 13) rfl rfl ?_ (jK h72 HKS.out rfl rfl (.tmp 3) (.tmp 10) rfl rfl rfl (fun _ h87 => ?_) AllReady.nil))
     ·simp only [Act.put, sD, sE, sF, sA, sB, sC]
      refine rA [10] ?_
      refine (jK h72 HKS.out rfl rfl (.tmp 3) (.tmp 10) rfl rfl rfl (fun _ h88 => ?_) AllReady.nil)
      simp only [Act.put, sD, sE, sF]
      refine rA [11] ?_
      refine (jL h88 HKS.out HL.out rfl rfl (.tmp 4) (.tmp 14) rfl rfl rfl (fun _ h89 => ?_) AllReady.nil)
      refine dA ?_
      go_wp2_with fail
      go_meet
      case rel => exact ⟨_, _, rfl, rfl, h89⟩
     ·simp only [Act.put, sD, sE, sF]
      refine rA [7] ?_
      refine (jW h87 HL.out rfl rfl (.tmp 13) rfl rfl ?_ AllReady.nil)
      simp only [Act.put, sD, sE, sF, sA, sB, sC]
      refine rA [11] ?_
      refine (jL h87 HKS.out HL.out rfl rfl (.tmp 4) (.tmp 14) rfl rfl rfl (fun _ h90 => ?_) AllReady.nil)
      refine dA ?_
      go_wp2_with fail
      go_meet
      case rel => exact ⟨_, _, rfl, rfl, h90⟩
    ·simp only [Act.put, sD, sE, sF, sA, sB, sC]
     refine rA [3] ?_
     refine (ju h72 rfl rfl (.tmp 9) rfl rfl ?_ AllReady.nil)
     simp only [Act.put, sD, sE, sF, sA, sB, sC]
     refine rA [10] ?_
     refine (jK h72 HKS.out rfl rfl (.tmp 3) (.tmp 10) rfl rfl rfl (fun _ h91 => ?_) AllReady.nil)
     simp only [Act.put, sD, sE, sF]
     refine rA [11] ?_
     refine (jL h91 HKS.out HL.out rfl rfl (.tmp 4) (.tmp 14) rfl rfl rfl (fun _ h92 => ?_) AllReady.nil)
     refine dA ?_
     go_wp2_with fail
     go_meet
     case rel => exact ⟨_, _, rfl, rfl, h92⟩
 case rest =>
  obtain ⟨g3, g4, rfl, rfl, HSt⟩ := hcut
  have HSW : Hid (SW w wc K n g3 g4 V rst) := by
   obtain ⟨a1, c3, a2, a3, a4⟩ := HSt.out.r3 g3 rfl
   obtain ⟨b1, c4, b2, b3, b4⟩ := HSt.out.r4 g4 rfl
   have hs := HS.out
   rw [a4 rfl] at a2
   rw [b4 rfl] at b2
   refine ⟨?_, a2, b2, ?_, hs.2.2.1.trans (HSt.out.below.mono (by rw [hs.2.1]; omega)), by omega, by omega, HSt.out.ne g3 g4 rfl rfl, hKs⟩
   ·rw [cell_of_row _ K _ _ _ _ HSt.out.hash, zA HL.out]
   ·rw [HSt.out.below.block _ (by rw [hs.2.1]; omega)]; exact hs.2.2.2
  clear HSt HS HKS HG
  obtain ⟨r, hr⟩ : ∃ r, r = n % 64 := ⟨_, rfl⟩
  have hrem := bT n
  rw [← hr] at hrem
  have hr64 : r < 64 := by omega
  have hr64I : (r : Int) < 64 := by omega
  have cK := HSW.out.count
  have HR : Hid (r = l.length % 64) := by show _ = _; rw [hr, HI.out.2.2.2]
  clear hr
  obtain ⟨x1, x2, X1, hx1, hx2⟩ : ∃ x1 x2 : Nat, Hid (x1 < 4294967296 ∧ x2 < 4294967296) ∧ (8 * n / 4294967296 = x1) ∧ (8 * n % 4294967296 = x2) := ⟨_, _, ⟨by omega, by omega⟩, rfl, rfl⟩
  have HX : Hid (8 * n / 4294967296 = x1 ∧ 8 * n % 4294967296 = x2) := ⟨hx1, hx2⟩
  have y1 : (n : Int) * 8 / 4294967296 % 4294967296 = (x1 : Int) := by omega
  have y2 : (n : Int) * 8 % 4294967296 = (x2 : Int) := by omega
  have y3 : (n : Int) * 8 / 4294967296 = (x1 : Int) := by omega
  have y4 : (n : Int) * 8 % 18446744073709551616 = (n : Int) * 8 := by omega
  have y5 : (n : Int) % 18446744073709551616 = (n : Int) := by omega
  have s56 := ba g4 0 56 (by decide)
  have s60 := ba g4 0 60 (by decide)
  obtain ⟨L1, HL1⟩ : ∃ L1, Hid (L1 = rst.set r 128) := ⟨rst.set r 128, rfl⟩
  obtain ⟨L2, HL2⟩ : ∃ L2, Hid (L2 = rst.take r ++ (128 :: List.replicate (63 - r) 0)) := ⟨rst.take r ++ (128 :: List.replicate (63 - r) 0), rfl⟩
  have HLL : Hid (L2.length = 64) := by show _ = _; rw [HL2.out]; have := HL.out; simp; omega
  have c4 : ∃ v, wc.cell? ⟨g4, r, none⟩ = some v := by
   refine ⟨_, (cell_of_row _ g4 r _ _ _ HSW.out.r4).trans (Array.getElem?_eq_getElem ?_)⟩
   simp only [List.size_toArray, List.length_map]; have := HL.out; omega
  obtain ⟨v4, c4⟩ := c4
  have f4 : wc.frozen? ⟨g4, r, none⟩ = false := frozen_of_row _ g4 r _ _ HSW.out.r4
  have HSW1 : Hid (SW w (wc.setCell ⟨g4, r, none⟩ (.int .u8 128)) K n g3 g4 V L1) := by
   have h := HSW.out.set4 L1
   rw [HL1.out, ← bb, ← setCell_eq_setRow wc g4 r _ 240 (0, 0) _ HSW.out.r4] at h
   rw [HL1.out]
   exact h
  have hr1 : ∃ m, Hid (m = 63 - r) ∧ ∀ wz, (Instr.sliceAt 240 (.pointer (some ⟨g4, 0, none⟩)) (some (.int .i64 ((r : Int) + 1))) none none).run Tryz.prog wz = .ok (.slice (some ⟨g4, if r = 63 then 0 else r + 1, none⟩) m m) wz := by
   by_cases h63 : r = 63
   ·subst h63
    exact ⟨0, rfl, fun wz => gY g4 0 wz⟩
   ·refine ⟨63 - r, rfl, fun wz => ?_⟩
    have h := ba g4 0 (r + 1) (by omega) wz
    rw [show ((r + 1 : Nat) : Int) = (r : Int) + 1 by omega, show 64 - (r + 1) = 63 - r by omega, show 0 + (r + 1) = r + 1 by omega] at h
    rw [if_neg h63]; exact h
  obtain ⟨m, HM, hsl⟩ := hr1
  obtain ⟨of, HOF, hofe⟩ : ∃ of, Hid (of = if r = 63 then 0 else r + 1) ∧ (if r = 63 then 0 else r + 1) = of := ⟨_, rfl, rfl⟩
  rw [hofe] at hsl
  clear hofe
  have HC0 : Hid (m = 0 → (L1.map vb).toArray = (L2.map vb).toArray) := by
   intro h0
   have hm := HM.out
   have h63 : r = 63 := by omega
   rw [HL1.out, HL2.out, h63]
   have hl := HL.out
   congr 2
   rw [List.set_eq_take_append_cons_drop, if_pos (by omega), List.drop_of_length_le (by omega)]
   simp
  have HC1 : Hid (0 < m → of + m ≤ ((L1.map vb).toArray).size ∧ ((L1.map vb).toArray.toList.take of ++ List.replicate m (vb 0) ++ (L1.map vb).toArray.toList.drop (of + m)).toArray = (L2.map vb).toArray) := by
   intro h0
   have hm := HM.out
   have h63 : ¬ r = 63 := by omega
   have ho := HOF.out
   rw [if_neg h63] at ho
   have hl := HL.out
   refine ⟨by simp only [List.size_toArray, List.length_map]; rw [HL1.out, List.length_set]; omega, ?_⟩
   rw [HL1.out, HL2.out, ho, hm]
   rw [List.set_eq_take_append_cons_drop, if_pos (by omega)]
   have hA : ((rst.take r).map vb ++ [vb 128]).length = r + 1 := by simp; omega
   have hB : ((rst.drop (r + 1)).map vb).length = 63 - r := by simp; omega
   apply Array.ext'
   show (List.take (r + 1) (List.map vb (rst.take r ++ 128 :: rst.drop (r + 1))) ++ List.replicate (63 - r) (vb 0) ++ List.drop (r + 1 + (63 - r)) (List.map vb (rst.take r ++ 128 :: rst.drop (r + 1)))) = List.map vb (rst.take r ++ 128 :: List.replicate (63 - r) 0)
   rw [show List.map vb (rst.take r ++ 128 :: rst.drop (r + 1)) = ((rst.take r).map vb ++ [vb 128]) ++ (rst.drop (r + 1)).map vb by simp, List.take_append_of_le_length (by omega), List.take_of_length_le (by omega), List.drop_of_length_le (by rw [lA, hA, hB]; omega)]
   simp
  by_cases h56 : r < 56
  ·have h56I : ¬ ((56 : Int) ≤ (r : Int)) := by omega
   obtain ⟨F, FE⟩ : ∃ F, Hid (F = L2.take 56 ++ (Sha.four x1 ++ Sha.four x2)) := ⟨_, rfl⟩
   have FE2 : Hid (F = rst.take (l.length % 64) ++ (128 :: (List.replicate (55 - l.length % 64) 0 ++ Sha.tail8 l.length))) := by
    show _ = _
    have hl := HL.out
    rw [FE.out, HL2.out, ← HR.out, List.take_append, List.take_of_length_le (by simp; omega), show 56 - (List.take r rst).length = (55 - r) + 1 by simp; omega, List.take_succ_cons, List.take_replicate, show min (55 - r) (63 - r) = 55 - r by omega]
    unfold Sha.tail8
    rw [← HI.out.2.2.2, HX.out.1, HX.out.2]
    simp
   have FOK : Hid (vok V ∧ F.length = 64 ∧ Bytes F) := by
    refine ⟨HI.out.2.1, ?_, ?_⟩
    ·rw [FE.out]; have := HLL.out; simp [Sha.four]; omega
    ·have hb : Bytes L2 := by
      rw [HL2.out]; intro x hx
      simp only [List.mem_append, List.mem_cons, List.mem_replicate] at hx
      rcases hx with hx | rfl | hx
      ·exact HI.out.2.2.1 x (List.mem_of_mem_take hx)
      ·decide
      ·omega
     rw [FE.out]; intro x hx
     simp only [List.mem_append, Sha.four, List.mem_cons, List.not_mem_nil, or_false] at hx
     rcases hx with hx | hx | hx
     ·exact hb x (List.mem_of_mem_take hx)
     ·omega
     ·omega
   have FSHA : Hid (Sha.out (Sha.mix V (L2.take 56 ++ (Sha.four x1 ++ Sha.four x2))) = Sha.sha l) := by
    show _ = _
    rw [← FE.out, FE2.out]
    exact Sha.oI HI.out.1 (by rw [← HR.out]; exact h56)
   go_upto_region 7 with (refine xz rfl (.tmp 24) rfl g4 of m m rfl (L1.map vb).toArray (L2.map vb).toArray 240 HSW1.out.r4 (fun h => (HC1.out h).1) HC0.out (fun h => (HC1.out h).2) ?_)
   refine kx (fun wt => SW w wt K n g3 g4 V L2) (HSW1.out.set4 L2) fun wt HA => ?_
   have HA' : Hid (SW w wt K n g3 g4 V L2) := HA
   have cK := HA.count
   clear HA
   have C1 : Hid (Calls Tryz.prog 159 #[.slice (some ⟨g4, 56, none⟩) 8 8, .int .u32 (x1 : Int)] wt fun e w' => e = .returned (.tuple #[]) ∧ w' = wt.setRow g4 (put4 ((L2).map vb).toArray 56 x1)) :=
    yF g4 56 8 8 x1 _ 240 wt X1.out.1 (by decide) HA'.out.r4 (by simp only [List.size_toArray, List.length_map]; have := HLL.out; omega)
   have C2 : Hid (Calls Tryz.prog 159 #[.slice (some ⟨g4, 60, none⟩) 4 4, .int .u32 (x2 : Int)] (wt.setRow g4 (put4 ((L2).map vb).toArray 56 x1)) fun e w' => e = .returned (.tuple #[]) ∧ w' = wt.setRow g4 (F.map vb).toArray) := by
    have h := yF g4 60 4 4 x2 (put4 ((L2).map vb).toArray 56 x1) 240 (wt.setRow g4 (put4 ((L2).map vb).toArray 56 x1)) X1.out.2 (by decide) (setRow_heap _ _ _ _ _ _ HA'.out.r4) (by unfold put4; simp only [Array.size_setIfInBounds, List.size_toArray, List.length_map]; have := HLL.out; omega)
    rw [setRow_setRow, fF _ x1 x2 HLL.out, ← FE.out] at h
    exact h
   have HA2 : Hid (SW w (wt.setRow g4 (F.map vb).toArray) K n g3 g4 V F) := HA'.out.set4 F
   have cK2 : (wt.setRow g4 (put4 ((L2).map vb).toArray 56 x1)).cell? ⟨K, 72, none⟩ = some (.int .i64 (n : Int)) := by
    rw [cell_setRow_other _ _ _ _ (by show K ≠ g4; have := HA'.out.lt4; have := HA'.out.ltK; omega)]; exact cK
   have CM : Hid (∀ wz, Tabs wz → Calls Tryz.prog 158 #[.agg (vagg V), .agg (F.map vb).toArray] wz fun e w' => e = .returned (.agg (vagg (Sha.mix V F))) ∧ Below wz.heap.size wz w') := fun wz hz => dl V F wz FOK.out.1 FOK.out.2.1 FOK.out.2.2 hz
   have CB : Hid (∀ wz, Calls Tryz.prog 160 #[.agg (vagg (Sha.mix V F))] wz fun x w' => x = .returned (.agg ((Sha.out (Sha.mix V F)).map vb).toArray) ∧ Below wz.heap.size wz w') := fun wz => fH _ wz de
   have HZ94 : Hid ((Tryz.prog.info? 238).map (·.size) = some (vagg V).size) := by show _ = _; rw [show (vagg V).size = 8 from rfl]; kernel_rfl
   have HZ96 : Hid ((Tryz.prog.info? 240).map (·.size) = some ((F.map vb).toArray).size) := by show _ = _; rw [show ((F.map vb).toArray).size = 64 by simp only [List.size_toArray, List.length_map]; exact FOK.out.2.1]; kernel_rfl
   have HZ41 : Hid ((Tryz.prog.info? 22).map (·.size) = some (((Sha.out (Sha.mix V F)).map vb).toArray).size) := by show _ = _; rw [show (((Sha.out (Sha.mix V F)).map vb).toArray).size = 32 by simp only [List.size_toArray, List.length_map]; exact gZ _]; kernel_rfl
   have HTT : Hid (Tabs (wt.setRow g4 (F.map vb).toArray)) := HT.out.up HA2.out.below
   go_wp2_with (first | (go_at_call 159; (first | with_reducible refine C1.out.mono ?_ | with_reducible refine C2.out.mono ?_); rintro e w1 ⟨rfl, rfl⟩) | refine wpList_load_row rfl 238 (.tmp 3) rfl g3 rfl 238 (vagg V) (0, 0) (.array 8 56) HA2.out.r3 Tryz.underlying238 rfl HZ94.out ?_ | refine wpList_load_row rfl 240 (.tmp 4) rfl g4 rfl 240 (F.map vb).toArray (0, 0) (.array 64 5) HA2.out.r4 Tryz.underlying240 rfl HZ96.out ?_ | (go_at_call 158; refine (CM.out _ HTT.out).mono ?_; rintro e w2 ⟨rfl, hb2⟩; have HB2 : Hid (Below (wt.setRow g4 (F.map vb).toArray).heap.size (wt.setRow g4 (F.map vb).toArray) w2) := hb2; clear hb2) | (go_at_call 160; refine (CB.out _).mono ?_; rintro e w3 ⟨rfl, hb3⟩; have HB3 : Hid (SW w w3 K n g3 g4 V F) := (HA2.out.up HB2.out).up hb3; clear hb3) | refine wpList_store_row rfl 22 (.tmp 2) (.tmp 49) rfl w.heap.size ((Sha.out (Sha.mix V F)).map vb).toArray rfl rfl 22 (jX 32 []) HB3.out.out HZ41.out (by rw [kw (by simp)]; simp only [List.size_toArray, List.length_map]; rfl) (xy _) ?_)
   refine bodyPost_ret (results_cell_row (P := Tryz.prog) rfl _ _ w.heap.size 22 ((Sha.out (Sha.mix V F)).map vb).toArray (0, 0) (.array 32 5) rfl (setRow_heap _ _ _ _ _ _ HB3.out.out) Tryz.underlying22 rfl HZ41.out) rfl ⟨by rw [FE.out, FSHA.out], below_setRow HB3.out.below (Nat.le_refl _) _⟩
  ·have h56I : (56 : Int) ≤ (r : Int) := by omega
   obtain ⟨M, HME⟩ : ∃ M, Hid (M = Sha.mix V L2) := ⟨Sha.mix V L2, rfl⟩
   obtain ⟨Z, HZE⟩ : ∃ Z : List Nat, Hid (Z = List.replicate 64 0) := ⟨List.replicate 64 0, rfl⟩
   have hb2 : Hid (Bytes L2) := by
    rw [HL2.out]; intro x hx
    simp only [List.mem_append, List.mem_cons, List.mem_replicate] at hx
    rcases hx with hx | rfl | hx
    ·exact HI.out.2.2.1 x (List.mem_of_mem_take hx)
    ·decide
    ·omega
   go_upto_region 6 with (refine xz rfl (.tmp 24) rfl g4 of m m rfl (L1.map vb).toArray (L2.map vb).toArray 240 HSW1.out.r4 (fun h => (HC1.out h).1) HC0.out (fun h => (HC1.out h).2) ?_)
   refine kx (fun wt => SW w wt K n g3 g4 V L2) (HSW1.out.set4 L2) fun w6 HA6 => ?_
   have HS6 : Hid (SW w w6 K n g3 g4 V L2) := HA6
   clear HA6
   have CM0 : Hid (Calls Tryz.prog 158 #[.agg (vagg V), .agg (L2.map vb).toArray] w6 fun e w' => e = .returned (.agg (vagg M)) ∧ Below w6.heap.size w6 w') := by
    rw [HME.out]; exact dl V L2 w6 HI.out.2.1 HLL.out hb2.out (HT.out.up HS6.out.below)
   have HZ94a : Hid ((Tryz.prog.info? 238).map (·.size) = some (vagg V).size ∧ (Tryz.prog.info? 238).map (·.size) = some (vagg M).size) := by refine ⟨?_, ?_⟩ <;> (show _ = some 8; kernel_rfl)
   have HZ96a : Hid ((Tryz.prog.info? 240).map (·.size) = some ((L2.map vb).toArray).size ∧ (Tryz.prog.info? 240).map (·.size) = some (jX 64 []).size ∧ ((L2.map vb).toArray).size = (jX 64 []).size) := by
    have e1 : ((L2.map vb).toArray).size = 64 := by simp only [List.size_toArray, List.length_map]; exact HLL.out
    have e2 : (jX 64 []).size = 64 := kw (by simp)
    rw [e1, e2]
    exact ⟨by kernel_rfl, by kernel_rfl, rfl⟩
   have HZB : Hid (jX 64 [] = (Z.map vb).toArray ∧ (jX 64 []).all (·.oneCell') = true) := by
    have e : jX 64 [] = (Z.map vb).toArray := by rw [HZE.out]; rfl
    exact ⟨e, by rw [e]; exact xy _⟩
   go_upto_region 7 with (first | refine wpList_load_row rfl 238 (.tmp 3) rfl g3 rfl 238 (vagg V) (0, 0) (.array 8 56) HS6.out.r3 Tryz.underlying238 rfl HZ94a.out.1 ?_ | refine wpList_load_row rfl 240 (.tmp 4) rfl g4 rfl 240 (L2.map vb).toArray (0, 0) (.array 64 5) HS6.out.r4 Tryz.underlying240 rfl HZ96a.out.1 ?_ | (go_at_call 158; refine CM0.out.mono ?_; rintro e w2 ⟨rfl, hb2'⟩; have HB2 : Hid (SW w w2 K n g3 g4 V L2) := HS6.out.up hb2'; clear hb2') | refine dm rfl 240 rfl (jX 64 []) built96 ?_ | refine wpList_store_row rfl 238 (.tmp 3) (.tmp 29) rfl g3 (vagg M) rfl rfl 238 (vagg V) HB2.out.r3 HZ94a.out.2 rfl (cd _) ?_ | refine wpList_store_row rfl 240 (.tmp 4) (.tmp 30) rfl g4 (jX 64 []) rfl rfl 240 (L2.map vb).toArray (HB2.out.set3 M).r4 HZ96a.out.2.1 HZ96a.out.2.2 HZB.out.2 ?_)
   have HFIN6 : SW w ((w2.setRow g3 (vagg M)).setRow g4 (jX 64 [])) K n g3 g4 M Z := by
    have h := (HB2.out.set3 M).set4 Z
    rw [← HZB.out.1] at h
    exact h
   obtain ⟨F, FE⟩ : ∃ F, Hid (F = Z.take 56 ++ (Sha.four x1 ++ Sha.four x2)) := ⟨_, rfl⟩
   have HLLo : Hid (L2.length = 64) := HLL
   clear HLL
   have HLL : Hid (Z.length = 64) := by show _ = _; rw [HZE.out, List.length_replicate]
   have FOK : Hid (vok M ∧ F.length = 64 ∧ Bytes F) := by
    refine ⟨by rw [HME.out]; exact de, ?_, ?_⟩
    ·rw [FE.out]; have := HLL.out; simp [Sha.four]; omega
    ·rw [FE.out, HZE.out]; intro x hx
     simp only [List.mem_append, Sha.four, List.mem_cons, List.not_mem_nil, or_false] at hx
     rcases hx with hx | hx | hx
     ·have := List.mem_of_mem_take hx; rw [List.mem_replicate] at this; omega
     ·omega
     ·omega
   have FSHA : Hid (Sha.out (Sha.mix M (Z.take 56 ++ (Sha.four x1 ++ Sha.four x2))) = Sha.sha l) := by
    show _ = _
    have h := Sha.rB HI.out.1 (by rw [← HR.out]; omega)
    rw [← HR.out, ← HL2.out, ← HME.out] at h
    rw [show Z.take 56 ++ (Sha.four x1 ++ Sha.four x2) = List.replicate 56 0 ++ Sha.tail8 l.length from ?_]
    ·exact h
    ·unfold Sha.tail8
     rw [← HI.out.2.2.2, HX.out.1, HX.out.2, HZE.out, List.take_replicate]
     rfl
   refine kx (fun wt => SW w wt K n g3 g4 M Z) HFIN6 fun wt HA => ?_
   have HA' : Hid (SW w wt K n g3 g4 M Z) := HA
   have cK := HA.count
   clear HA
   have C1 : Hid (Calls Tryz.prog 159 #[.slice (some ⟨g4, 56, none⟩) 8 8, .int .u32 (x1 : Int)] wt fun e w' => e = .returned (.tuple #[]) ∧ w' = wt.setRow g4 (put4 ((Z).map vb).toArray 56 x1)) :=
    yF g4 56 8 8 x1 _ 240 wt X1.out.1 (by decide) HA'.out.r4 (by simp only [List.size_toArray, List.length_map]; have := HLL.out; omega)
   have C2 : Hid (Calls Tryz.prog 159 #[.slice (some ⟨g4, 60, none⟩) 4 4, .int .u32 (x2 : Int)] (wt.setRow g4 (put4 ((Z).map vb).toArray 56 x1)) fun e w' => e = .returned (.tuple #[]) ∧ w' = wt.setRow g4 (F.map vb).toArray) := by
    have h := yF g4 60 4 4 x2 (put4 ((Z).map vb).toArray 56 x1) 240 (wt.setRow g4 (put4 ((Z).map vb).toArray 56 x1)) X1.out.2 (by decide) (setRow_heap _ _ _ _ _ _ HA'.out.r4) (by unfold put4; simp only [Array.size_setIfInBounds, List.size_toArray, List.length_map]; have := HLL.out; omega)
    rw [setRow_setRow, fF _ x1 x2 HLL.out, ← FE.out] at h
    exact h
   have HA2 : Hid (SW w (wt.setRow g4 (F.map vb).toArray) K n g3 g4 M F) := HA'.out.set4 F
   have cK2 : (wt.setRow g4 (put4 ((Z).map vb).toArray 56 x1)).cell? ⟨K, 72, none⟩ = some (.int .i64 (n : Int)) := by
    rw [cell_setRow_other _ _ _ _ (by show K ≠ g4; have := HA'.out.lt4; have := HA'.out.ltK; omega)]; exact cK
   have CM : Hid (∀ wz, Tabs wz → Calls Tryz.prog 158 #[.agg (vagg M), .agg (F.map vb).toArray] wz fun e w' => e = .returned (.agg (vagg (Sha.mix M F))) ∧ Below wz.heap.size wz w') := fun wz hz => dl M F wz FOK.out.1 FOK.out.2.1 FOK.out.2.2 hz
   have CB : Hid (∀ wz, Calls Tryz.prog 160 #[.agg (vagg (Sha.mix M F))] wz fun x w' => x = .returned (.agg ((Sha.out (Sha.mix M F)).map vb).toArray) ∧ Below wz.heap.size wz w') := fun wz => fH _ wz de
   have HZ94 : Hid ((Tryz.prog.info? 238).map (·.size) = some (vagg M).size) := by show _ = _; rw [show (vagg M).size = 8 from rfl]; kernel_rfl
   have HZ96 : Hid ((Tryz.prog.info? 240).map (·.size) = some ((F.map vb).toArray).size) := by show _ = _; rw [show ((F.map vb).toArray).size = 64 by simp only [List.size_toArray, List.length_map]; exact FOK.out.2.1]; kernel_rfl
   have HZ41 : Hid ((Tryz.prog.info? 22).map (·.size) = some (((Sha.out (Sha.mix M F)).map vb).toArray).size) := by show _ = _; rw [show (((Sha.out (Sha.mix M F)).map vb).toArray).size = 32 by simp only [List.size_toArray, List.length_map]; exact gZ _]; kernel_rfl
   have HTT : Hid (Tabs (wt.setRow g4 (F.map vb).toArray)) := HT.out.up HA2.out.below
   go_wp2_with (first | (go_at_call 159; (first | with_reducible refine C1.out.mono ?_ | with_reducible refine C2.out.mono ?_); rintro e w1 ⟨rfl, rfl⟩) | refine wpList_load_row rfl 238 (.tmp 3) rfl g3 rfl 238 (vagg M) (0, 0) (.array 8 56) HA2.out.r3 Tryz.underlying238 rfl HZ94.out ?_ | refine wpList_load_row rfl 240 (.tmp 4) rfl g4 rfl 240 (F.map vb).toArray (0, 0) (.array 64 5) HA2.out.r4 Tryz.underlying240 rfl HZ96.out ?_ | (go_at_call 158; refine (CM.out _ HTT.out).mono ?_; rintro e w2 ⟨rfl, hb2⟩; have HB2 : Hid (Below (wt.setRow g4 (F.map vb).toArray).heap.size (wt.setRow g4 (F.map vb).toArray) w2) := hb2; clear hb2) | (go_at_call 160; refine (CB.out _).mono ?_; rintro e w3 ⟨rfl, hb3⟩; have HB3 : Hid (SW w w3 K n g3 g4 M F) := (HA2.out.up HB2.out).up hb3; clear hb3) | refine wpList_store_row rfl 22 (.tmp 2) (.tmp 49) rfl w.heap.size ((Sha.out (Sha.mix M F)).map vb).toArray rfl rfl 22 (jX 32 []) HB3.out.out HZ41.out (by rw [kw (by simp)]; simp only [List.size_toArray, List.length_map]; rfl) (xy _) ?_)
   refine bodyPost_ret (results_cell_row (P := Tryz.prog) rfl _ _ w.heap.size 22 ((Sha.out (Sha.mix M F)).map vb).toArray (0, 0) (.array 32 5) rfl (setRow_heap _ _ _ _ _ _ HB3.out.out) Tryz.underlying22 rfl HZ41.out) rfl ⟨by rw [FE.out, FSHA.out], below_setRow HB3.out.below (Nat.le_refl _) _⟩
def HasL (w : World) (v : Value) (ps : List (List Nat)) : Prop :=
 (v = .slice none 0 0 ∧ ps = []) ∨ ∃ a cap, v = .slice (some a) ps.length cap ∧ ps.length ≤ cap ∧ ∀ i, i < ps.length → ∃ u, w.cell? (a.add i) = some u ∧ Has w u (ps.getD i [])
theorem HasL.below {w w' : World} {v : Value} {ps : List (List Nat)} (h : HasL w v ps) (hb : Below w.heap.size w w') : HasL w' v ps := by
 rcases h with h | ⟨a, cap, hv, hc, h⟩
 ·exact .inl h
 ·refine .inr ⟨a, cap, hv, hc, fun i hi => ?_⟩
  obtain ⟨u, h1, h2⟩ := h i hi
  exact ⟨u, by rw [hb.cell (block_lt_of_cell h1)]; exact h1, h2.below hb⟩
theorem z41 : (Obj.cells #[Value.int .u8 0, .int .u8 0, .int .u8 0, .int .u8 0, .int .u8 0, .int .u8 0, .int .u8 0, .int .u8 0, .int .u8 0, .int .u8 0, .int .u8 0, .int .u8 0, .int .u8 0, .int .u8 0, .int .u8 0, .int .u8 0, .int .u8 0, .int .u8 0, .int .u8 0, .int .u8 0, .int .u8 0, .int .u8 0, .int .u8 0, .int .u8 0, .int .u8 0, .int .u8 0, .int .u8 0, .int .u8 0, .int .u8 0, .int .u8 0, .int .u8 0, .int .u8 0] 22) = Obj.cells (jX 32 []) 22 := rfl
theorem hz41 (l : List Nat) : (Tryz.prog.info? 22).map (·.size) = some (((Sha.sha l).map vb).toArray).size := by
 rw [show (((Sha.sha l).map vb).toArray).size = 32 by simp only [List.size_toArray, List.length_map]; exact qS _]; kernel_rfl
theorem ho41 (l : List Nat) : (jX 32 []).size = (((Sha.sha l).map vb).toArray).size := by
 rw [kw (by simp)]; simp only [List.size_toArray, List.length_map]; exact (qS _).symm
theorem xd (ps : List (List Nat)) (k : Nat) (h : k < ps.length) : (ps.take (k + 1)).flatten = (ps.take k).flatten ++ ps.getD k [] := by
 rw [List.take_succ_eq_append_getElem h, List.flatten_append]
 simp [List.getD, List.getElem?_eq_getElem h]
theorem r6 (a : Addr) (cap : Nat) (ps : List (List Nat)) (w : World) (hc : ∀ i, i < ps.length → ∃ u, w.cell? (a.add i) = some u ∧ Has w u (ps.getD i [])) (hB : ∀ p ∈ ps, Bytes p) (hT : Tabs w) (hl : ps.flatten.length < 1152921504606846976) (hn : ps.length < 4611686018427387904) :
  Calls Tryz.prog 83 #[.slice (some a) ps.length cap] w fun e w' => e = .returned (.agg ((Sha.sha ps.flatten).map vb).toArray) ∧ Below w.heap.size w w' := by
 have HC : Hid (∀ i, i < ps.length → ∃ u, w.cell? (a.add i) = some u ∧ Has w u (ps.getD i [])) := hc
 have HB : Hid (∀ p ∈ ps, Bytes p) := hB
 have HT : Hid (Tabs w) := hT
 have HL : Hid (ps.flatten.length < 1152921504606846976) := hl
 have hs3 := hT.size
 clear hc hB hT hl
 have CN : Hid (Calls Tryz.prog 122 #[] (w.alloc (.cells (jX 32 []) 22)) fun e w' => e = .returned (.pointer (some ⟨w.heap.size + 1, 0, none⟩)) ∧ w' = (w.alloc (.cells (jX 32 []) 22)).alloc (.cells hnew 242)) := by
  have h := oF (w.alloc (.cells (jX 32 []) 22)) (HT.out.up ((Below.refl _ w).alloc (Nat.le_refl _) _))
  rw [show (w.alloc (.cells (jX 32 []) 22)).heap.size = w.heap.size + 1 by simp] at h
  exact h
 have HST : Hid (qM ((w.alloc (.cells (jX 32 []) 22)).alloc (.cells hnew 242)) (w.heap.size + 1) 242 [] ∧ ((w.alloc (.cells (jX 32 []) 22)).alloc (.cells hnew 242)).heap[w.heap.size]? = some (.cells (jX 32 []) 22 (0, 0)) ∧ Below w.heap.size w ((w.alloc (.cells (jX 32 []) 22)).alloc (.cells hnew 242))) := by
  refine ⟨?_, by rw [heap_alloc_old _ _ (by simp)]; exact heap_alloc_new _ _, ((Below.refl _ w).alloc (Nat.le_refl _) _).alloc (by simp) _⟩
  have := iQ (w.alloc (.cells (jX 32 []) 22)) 242
  rw [show (w.alloc (.cells (jX 32 []) 22)).heap.size = w.heap.size + 1 by simp] at this
  exact this
 obtain ⟨nw, hnw⟩ : ∃ nw, nw = hnew := ⟨_, rfl⟩
 rw [← hnw] at CN HST
 clear hnw
 go_enter Tryz.func83, Tryz.ntmps83
 go_upto_region 1 with fail
 rw [z41]
 go_wp2_with (go_at_call 122; refine CN.out.mono ?_; rintro e w1 ⟨rfl, rfl⟩)
 go_loopw [9] (fun i wr => ∃ (k : Nat), k ≤ ps.length ∧ i = .int .i64 k ∧ Hid (qM wr (w.heap.size + 1) 242 (ps.take k).flatten) ∧ Hid (wr.heap[w.heap.size]? = some (.cells (jX 32 []) 22 (0, 0))) ∧ Hid (Below w.heap.size w wr)) (fun i _ => ps.length - (intOf i).toNat)
 case atStart => exact ⟨0, by omega, rfl, HST.out.1, HST.out.2.1, HST.out.2.2⟩
 case round =>
  clear HST CN
  obtain ⟨k, hk, rfl, HH, HO, HW⟩ := hrel
  by_cases hlt : k < ps.length
  ·have hkI : (k : Int) < (ps.length : Int) := by omega
   obtain ⟨u, hu, hu2⟩ := HC.out k hlt
   obtain ⟨uo, uc, rfl, huc⟩ := hu2.form
   obtain ⟨pn, hpn⟩ : ∃ pn, pn = (ps.getD k []).length := ⟨_, rfl⟩
   rw [← hpn] at hu
   have cu : wr.cell? (a.add k) = some (.slice uo pn uc) := by rw [HW.out.cell (block_lt_of_cell hu)]; exact hu
   have C : Hid (Calls Tryz.prog 123 #[.pointer (some ⟨w.heap.size + 1, 0, none⟩), .slice uo pn uc] wr fun e w' => e = .returned (.tuple #[]) ∧ qM w' (w.heap.size + 1) 242 (ps.take (k + 1)).flatten ∧ But (w.heap.size + 1) wr w') := by
    have e : (ps.take (k + 1)).flatten = (ps.take k).flatten ++ ps.getD k [] := xd ps k hlt
    rw [e, hpn]
    have hlen : (ps.take k).flatten.length + (ps.getD k []).length ≤ ps.flatten.length := by
     rw [← lA, ← e]
     have : ps.flatten = (ps.take (k + 1)).flatten ++ (ps.drop (k + 1)).flatten := by rw [← List.flatten_append, List.take_append_drop]
     rw [this, lA]; omega
    refine cr _ _ _ _ _ _ HH.out (hu2.below HW.out) (lO hu2 (by omega)) (HB.out _ (by simp [List.getD, List.getElem?_eq_getElem hlt])) (HT.out.up HW.out) (by omega) (by have := HL.out; omega)
   clear hu hu2 huc hpn
   go_wp2_with (go_at_call 123; refine C.out.mono ?_; rintro e w1 ⟨rfl, h1, h2⟩; have R : Hid (qM w1 (w.heap.size + 1) 242 (ps.take (k + 1)).flatten ∧ But (w.heap.size + 1) wr w1) := ⟨h1, h2⟩; clear h1 h2)
   go_roundw
   case rel => exact ⟨k + 1, by omega, by go_num, R.out.1, (R.out.2.block _ (gS HO.out) (by omega)).trans HO.out, HW.out.trans (R.out.2.below (by omega) HW.out.size)⟩
   case measure => simp [intOf]; omega
  ·have hkI : ¬ (k : Int) < (ps.length : Int) := by omega
   obtain rfl : k = ps.length := by omega
   obtain ⟨c, hc⟩ : ∃ c, c = ((Sha.sha ps.flatten).map vb).toArray := ⟨_, rfl⟩
   have HCE : Hid (c = ((Sha.sha ps.flatten).map vb).toArray) := hc
   have HF : Hid ((Tryz.prog.info? 22).map (·.size) = some c.size ∧ (jX 32 []).size = c.size ∧ c.all (·.oneCell') = true) := by
    rw [hc]; exact ⟨hz41 _, ho41 _, xy _⟩
   have C : Hid (Calls Tryz.prog 124 #[.pointer (some ⟨w.heap.size + 1, 0, none⟩)] wr fun e w' => e = .returned (.agg c) ∧ Below wr.heap.size wr w') := by
    have h := HH.out
    rw [List.take_length] at h
    rw [hc]
    exact oP _ _ _ wr h (HT.out.up HW.out) HL.out
   clear hc
   go_wp2_with (first | (go_at_call 124; refine C.out.mono ?_; rintro e w1 ⟨rfl, hb1⟩; have HB1 : Hid (w1.heap[w.heap.size]? = some (.cells (jX 32 []) 22 (0, 0)) ∧ Below w.heap.size w w1) := ⟨(hb1.block _ (gS HO.out)).trans HO.out, Below.up HW.out hb1⟩; clear hb1) | refine wpList_store_row rfl 22 (.tmp 2) (.tmp 18) rfl w.heap.size c rfl rfl 22 (jX 32 []) HB1.out.1 HF.out.1 HF.out.2.1 HF.out.2.2 ?_)
   refine bodyPost_ret (results_cell_row (P := Tryz.prog) rfl _ _ w.heap.size 22 c (0, 0) (.array 32 5) rfl (setRow_heap _ _ _ _ _ _ HB1.out.1) Tryz.underlying22 rfl HF.out.1) rfl ⟨by rw [HCE.out], below_setRow HB1.out.2 (Nat.le_refl _) _⟩
theorem iR (w : World) (hT : Tabs w) :
  Calls Tryz.prog 83 #[.slice none 0 0] w fun e w' => e = .returned (.agg ((Sha.sha []).map vb).toArray) ∧ Below w.heap.size w w' := by
 have HT : Hid (Tabs w) := hT
 have hs3 := hT.size
 clear hT
 have CN : Hid (Calls Tryz.prog 122 #[] (w.alloc (.cells (jX 32 []) 22)) fun e w' => e = .returned (.pointer (some ⟨w.heap.size + 1, 0, none⟩)) ∧ w' = (w.alloc (.cells (jX 32 []) 22)).alloc (.cells hnew 242)) := by
  have h := oF (w.alloc (.cells (jX 32 []) 22)) (HT.out.up ((Below.refl _ w).alloc (Nat.le_refl _) _))
  rw [show (w.alloc (.cells (jX 32 []) 22)).heap.size = w.heap.size + 1 by simp] at h
  exact h
 have HST : Hid (qM ((w.alloc (.cells (jX 32 []) 22)).alloc (.cells hnew 242)) (w.heap.size + 1) 242 [] ∧ ((w.alloc (.cells (jX 32 []) 22)).alloc (.cells hnew 242)).heap[w.heap.size]? = some (.cells (jX 32 []) 22 (0, 0)) ∧ Below w.heap.size w ((w.alloc (.cells (jX 32 []) 22)).alloc (.cells hnew 242))) := by
  refine ⟨?_, by rw [heap_alloc_old _ _ (by simp)]; exact heap_alloc_new _ _, ((Below.refl _ w).alloc (Nat.le_refl _) _).alloc (by simp) _⟩
  have := iQ (w.alloc (.cells (jX 32 []) 22)) 242
  rw [show (w.alloc (.cells (jX 32 []) 22)).heap.size = w.heap.size + 1 by simp] at this
  exact this
 obtain ⟨nw, hnw⟩ : ∃ nw, nw = hnew := ⟨_, rfl⟩
 rw [← hnw] at CN HST
 clear hnw
 go_enter Tryz.func83, Tryz.ntmps83
 go_upto_region 1 with fail
 rw [z41]
 go_wp2_with (go_at_call 122; refine CN.out.mono ?_; rintro e w1 ⟨rfl, rfl⟩)
 go_loopw [9] (fun i wr => i = .int .i64 0 ∧ Hid (qM wr (w.heap.size + 1) 242 []) ∧ Hid (wr.heap[w.heap.size]? = some (.cells (jX 32 []) 22 (0, 0))) ∧ Hid (Below w.heap.size w wr)) (fun _ _ => 0)
 case atStart => exact ⟨rfl, HST.out.1, HST.out.2.1, HST.out.2.2⟩
 case round =>
  clear HST CN
  obtain ⟨rfl, HH, HO, HW⟩ := hrel
  obtain ⟨c, hc⟩ : ∃ c, c = ((Sha.sha []).map vb).toArray := ⟨_, rfl⟩
  have HCE : Hid (c = ((Sha.sha []).map vb).toArray) := hc
  have HF : Hid ((Tryz.prog.info? 22).map (·.size) = some c.size ∧ (jX 32 []).size = c.size ∧ c.all (·.oneCell') = true) := by
   rw [hc]; exact ⟨hz41 _, ho41 _, xy _⟩
  have C : Hid (Calls Tryz.prog 124 #[.pointer (some ⟨w.heap.size + 1, 0, none⟩)] wr fun e w' => e = .returned (.agg c) ∧ Below wr.heap.size wr w') := by
   rw [hc]
   exact oP _ _ _ wr HH.out (HT.out.up HW.out) (by decide)
  clear hc
  go_wp2_with (first | (go_at_call 124; refine C.out.mono ?_; rintro e w1 ⟨rfl, hb1⟩; have HB1 : Hid (w1.heap[w.heap.size]? = some (.cells (jX 32 []) 22 (0, 0)) ∧ Below w.heap.size w w1) := ⟨(hb1.block _ (gS HO.out)).trans HO.out, Below.up HW.out hb1⟩; clear hb1) | refine wpList_store_row rfl 22 (.tmp 2) (.tmp 18) rfl w.heap.size c rfl rfl 22 (jX 32 []) HB1.out.1 HF.out.1 HF.out.2.1 HF.out.2.2 ?_)
  refine bodyPost_ret (results_cell_row (P := Tryz.prog) rfl _ _ w.heap.size 22 c (0, 0) (.array 32 5) rfl (setRow_heap _ _ _ _ _ _ HB1.out.1) Tryz.underlying22 rfl HF.out.1) rfl ⟨by rw [HCE.out], below_setRow HB1.out.2 (Nat.le_refl _) _⟩
theorem tG (v : Value) (ps : List (List Nat)) (w : World) (hv : HasL w v ps) (hB : ∀ p ∈ ps, Bytes p) (hT : Tabs w) (hl : ps.flatten.length < 1152921504606846976) (hn : ps.length < 4611686018427387904) :
  Calls Tryz.prog 83 #[v] w fun e w' => e = .returned (.agg ((Sha.sha ps.flatten).map vb).toArray) ∧ Below w.heap.size w w' := by
 rcases hv with ⟨rfl, rfl⟩ | ⟨a, cap, rfl, _, hc⟩
 ·exact iR w hT
 ·exact r6 a cap ps w hc hB hT hl hn
end Go.Proofs.YtjikkhbcbfpocaaGreatDoor.Su
