import Derived.Test.YtpngnhpnjkepjaaDoorPlain2
set_option autoImplicit false
namespace Go.Proofs.YtpngnhpnjkepjaaDoor
open Go
/-- cmp.Compare of two numbers -/
def cmpI (x y : Int) : Int := if x < y then -1 else if y < x then 1 else 0
theorem take_more {α : Type} {a b : List α} {k : Nat} {x : α} (h : a.take k = b.take k) (ha : a[k]? = some x) (hb : b[k]? = some x) : a.take (k + 1) = b.take (k + 1) := by
  rw [List.take_add_one, List.take_add_one, h, ha, hb]
theorem cmpL_at : ∀ (k : Nat) (a b : By) (x y : UInt8), a.take k = b.take k → a[k]? = some x → b[k]? = some y → x ≠ y → cmpL a b = cmpI (rank x) (rank y)
  | 0, a, b, x, y, _, ha, hb, hn => by
    cases a with
    | nil => simp at ha
    | cons a0 a => cases b with
      | nil => simp at hb
      | cons b0 b =>
        simp at ha hb
        subst ha hb
        rw [cmpL, if_neg hn, cmpI]
        have : rank a0 ≠ rank b0 := fun e => hn (rank_inj e)
        by_cases h : rank a0 < rank b0
        · rw [if_pos h, if_pos h]
        · rw [if_neg h, if_neg h, if_pos (by omega)]
  | k + 1, a, b, x, y, h, ha, hb, hn => by
    cases a with
    | nil => simp at ha
    | cons a0 a => cases b with
      | nil => simp at hb
      | cons b0 b =>
        simp at h ha hb
        rw [cmpL, if_pos h.1]
        exact cmpL_at k a b x y h.2 ha hb hn
theorem cmpL_len : ∀ (k : Nat) (a b : By), k = min a.length b.length → a.take k = b.take k → cmpL a b = cmpI a.length b.length
  | 0, a, b, hk, _ => by
    cases a with
    | nil => cases b with
      | nil => rfl
      | cons b0 b => rw [cmpL, cmpI, if_pos (by simp)]
    | cons a0 a => cases b with
      | nil => rw [cmpL, cmpI, if_neg (by simp; omega), if_pos (by simp)]
      | cons b0 b => simp at hk
  | k + 1, a, b, hk, h => by
    cases a with
    | nil => simp at hk
    | cons a0 a => cases b with
      | nil => simp at hk
      | cons b0 b =>
        simp at h
        rw [cmpL, if_pos h.1, cmpL_len k a b (by simp at hk; omega) h.2]
        simp only [cmpI, List.length_cons]
        repeat' split
        all_goals omega
theorem belowL_at : ∀ (k : Nat) (a b : By) (x y : UInt8), a.take k = b.take k → a[k]? = some x → b[k]? = some y → x ≠ y → belowL a b = decide ((x.toNat : Int) < (y.toNat : Int))
  | 0, a, b, x, y, _, ha, hb, hn => by
    cases a with
    | nil => simp at ha
    | cons a0 a => cases b with
      | nil => simp at hb
      | cons b0 b =>
        simp at ha hb
        subst ha hb
        rw [belowL, if_neg hn]
        simp
  | k + 1, a, b, x, y, h, ha, hb, hn => by
    cases a with
    | nil => simp at ha
    | cons a0 a => cases b with
      | nil => simp at hb
      | cons b0 b =>
        simp at h ha hb
        rw [belowL, if_pos h.1]
        exact belowL_at k a b x y h.2 ha hb hn
theorem belowL_len : ∀ (k : Nat) (a b : By), k = min a.length b.length → a.take k = b.take k → belowL a b = decide ((a.length : Int) < (b.length : Int))
  | 0, a, b, hk, _ => by
    cases a with
    | nil => cases b with
      | nil => rfl
      | cons b0 b => rw [belowL]; simp
    | cons a0 a => cases b with
      | nil => rw [belowL]; simp; omega
      | cons b0 b => simp at hk
  | k + 1, a, b, hk, h => by
    cases a with
    | nil => simp at hk
    | cons a0 a => cases b with
      | nil => simp at hk
      | cons b0 b =>
        simp at h
        rw [belowL, if_pos h.1, belowL_len k a b (by simp at hk; omega) h.2]
        simp
/-- texts by their bytes -/
theorem ext_of (s t : ByteArray) (h : tl s = tl t) : s = t := by
  have : s.data.toList = t.data.toList := by rw [← ByteArray.toList_eq, ← ByteArray.toList_eq]; exact h
  cases s; cases t; congr; exact Array.toList_inj.1 this
theorem tl_extract (s : ByteArray) (a b : Nat) : tl (s.extract a b) = ((tl s).drop a).take (b - a) := by
  rw [tl, Lib.extract_toList, tl, ByteArray.toList_eq]
theorem tl_append (s t : ByteArray) : tl (s ++ t) = tl s ++ tl t := by
  simp only [tl, ByteArray.toList_eq]
  rw [ByteArray.data_append, Array.toList_append]
end Go.Proofs.YtpngnhpnjkepjaaDoor
