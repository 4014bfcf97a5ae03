/- Which texts are numbers, and which number a text is: plain facts on lists of bytes. -/
import Derived.Test.YtmpboglbnaiekaaDoorNumDigMath
namespace Go.Proofs.YtmpboglbnaiekaaDoor.Num
open Go.RowKit

/-- Is a byte a digit? -/
def isd (c : UInt8) : Bool := decide (48 ≤ (c.toNat : Int)) && decide ((c.toNat : Int) ≤ 57)
theorem isd_iff (c : UInt8) : isd c = true ↔ 48 ≤ (c.toNat : Int) ∧ (c.toNat : Int) ≤ 57 := by unfold isd; simp
def alld : List UInt8 → Bool
  | [] => true
  | c :: r => isd c && alld r
theorem alld_append (x y : List UInt8) : alld (x ++ y) = (alld x && alld y) := by
  induction x with
  | nil => simp [alld]
  | cons c r ih => simp [alld, ih, Bool.and_assoc]
/-- One to 19 digits, without a 0 ahead of others. -/
def plainB (l : List UInt8) : Bool := decide (1 ≤ l.length) && decide (l.length ≤ 19) && !(decide (l.head? = some 48) && decide (1 < l.length)) && alld l
/-- The number of digits. -/
def numN (l : List UInt8) : Nat := l.foldl (fun n c => n * 10 + (c.toNat - 48)) 0
theorem numN_nil : numN [] = 0 := rfl
theorem numN_snoc (l : List UInt8) (c : UInt8) : numN (l ++ [c]) = numN l * 10 + (c.toNat - 48) := by unfold numN; rw [List.foldl_append]; rfl
theorem foldl_lt : ∀ (l : List UInt8) (n k : Nat), alld l = true → n < 10 ^ k → l.foldl (fun n c => n * 10 + (c.toNat - 48)) n < 10 ^ (k + l.length)
  | [], n, k, _, h => by simpa using h
  | c :: r, n, k, h, hn => by
    simp only [alld, Bool.and_eq_true] at h
    have hc := (isd_iff c).1 h.1
    have : n * 10 + (c.toNat - 48) < 10 ^ (k + 1) := by rw [Nat.pow_succ]; omega
    have := foldl_lt r _ (k + 1) h.2 this
    simp only [List.foldl_cons, List.length_cons]
    rw [show k + (r.length + 1) = k + 1 + r.length by omega]
    exact this
theorem numN_lt {l : List UInt8} (h : alld l = true) : numN l < 10 ^ l.length := by
  have := foldl_lt l 0 0 h (by simp)
  simpa [numN] using this
def neg (l : List UInt8) : Bool := decide (l.head? = some 45)
def body (l : List UInt8) : List UInt8 := if neg l then l.tail else l
def okF (l : List UInt8) : Bool := plainB (body l) && !(neg l && decide (body l = [48]))
def rz (l : List UInt8) : Int := if neg l then -(numN (body l) : Int) else numN (body l)
/-- The number of a text, or 0. -/
def readV (l : List UInt8) : Int := if okF l then rv (rz l) else 0
/-- The error of a text. -/
def readE (l : List UInt8) : Int := if okF l then re (rz l) else 12
theorem read_yes {l : List UInt8} (h : okF l = true) : readV l = rv (rz l) ∧ readE l = re (rz l) := by unfold readV readE; rw [if_pos h, if_pos h]; exact ⟨rfl, rfl⟩
theorem read_no {l : List UInt8} (h : okF l = false) : readV l = 0 ∧ readE l = 12 := by unfold readV readE; rw [if_neg (by simp [h]), if_neg (by simp [h])]; exact ⟨rfl, rfl⟩
theorem take_snoc (s : ByteArray) (k : Nat) (h : k < s.size) : s.data.toList.take (k + 1) = s.data.toList.take k ++ [s[k]] := by
  rw [List.take_succ_eq_append_getElem (by simpa using h)]; rfl
theorem take_all (s : ByteArray) : s.data.toList.take s.size = s.data.toList := List.take_of_length_le (by simp)
theorem drop_byte (s : ByteArray) (k : Nat) (h : k < s.size) : s.data.toList.drop k = s[k] :: s.data.toList.drop (k + 1) := by
  rw [List.drop_eq_getElem_cons (by simpa using h)]; rfl
theorem head_byte (s : ByteArray) (h : 0 < s.size) : s.data.toList.head? = some s[0] := by
  have := drop_byte s 0 h
  rw [List.drop_zero] at this
  rw [this]; rfl
theorem alld_bad (s : ByteArray) (k : Nat) (h : k < s.size) (hb : isd s[k] = false) : alld s.data.toList = false := by
  have e : s.data.toList = s.data.toList.take k ++ s.data.toList.drop k := (List.take_append_drop k _).symm
  rw [e, alld_append, drop_byte s k h]
  simp [alld, hb]
end Go.Proofs.YtmpboglbnaiekaaDoor.Num
