import Derived.Test.YtgbaolafedkbdaaGreatDoorLexLongs
import Derived.Test.YtgbaolafedkbdaaGreatDoorRefKind
import Derived.Test.YtgbaolafedkbdaaGreatDoorLexToks
/- The document's own way to find the longest token (registrarref09.First): it is next. No dump. -/
namespace Go.Proofs.YtgbaolafedkbdaaGreatDoor.Lx
set_option linter.unusedVariables false

/-- From so many bytes on downwards: the first that are a token; none, if what stands behind is glued to a word. -/
def firstF (s : List UInt8) : Nat → Nat × Nat
  | 0 => (0, 0)
  | n + 1 => if kindOf (s.take (n + 1)) = 0 then firstF s n
    else if kindOf (s.take (n + 1)) ≠ 6 ∧ free (s.drop (n + 1)) = false then (0, 0) else (kindOf (s.take (n + 1)), n + 1)
/-- What is found, as two numbers. -/
def found : Option (Nat × Nat) → Nat × Nat
  | some x => x
  | none => (0, 0)
theorem firstF_none {s : List UInt8} : ∀ (n : Nat), (∀ m, 1 ≤ m → m ≤ n → kindOf (s.take m) = 0) → firstF s n = (0, 0)
  | 0, _ => rfl
  | n + 1, h => by
    unfold firstF
    rw [if_pos (h (n + 1) (by omega) (by omega))]
    exact firstF_none n fun m h1 h2 => h m h1 (by omega)
theorem firstF_top {s : List UInt8} {m k : Nat} (hm : 1 ≤ m) (hk : kindOf (s.take m) = k) (hk0 : k ≠ 0) : ∀ (n : Nat), m ≤ n → (∀ j, m < j → j ≤ n → kindOf (s.take j) = 0) → firstF s n = if k ≠ 6 ∧ free (s.drop m) = false then (0, 0) else (k, m)
  | 0, h, _ => by omega
  | n + 1, h, hz => by
    unfold firstF
    by_cases e : n + 1 = m
    · rw [e, hk, if_neg hk0]
    · rw [if_pos (hz (n + 1) (by omega) (by omega))]
      exact firstF_top hm hk hk0 n (by omega) fun j h1 h2 => hz j h1 (by omega)
theorem take_all {p : UInt8 → Bool} : ∀ (t : List UInt8) (n : Nat), n ≤ t.length → ((t.take n).all p = true ↔ n ≤ run p t)
  | t, 0, _ => by simp
  | [], n + 1, h => by simp at h
  | c :: t, n + 1, h => by
    simp only [List.length_cons] at h
    rw [List.take_succ_cons, List.all_cons, Bool.and_eq_true, take_all t n (by omega), run_cons]
    by_cases hc : p c = true
    · rw [if_pos hc]; simp [hc]
    · rw [if_neg hc]; simp [hc]
/-- Words and numbers. -/
theorem first_word {k most : Nat} {p : UInt8 → Bool} {c : UInt8} {t : List UInt8} (hk0 : k ≠ 0) (hk6 : k ≠ 6) (hmost : 1 ≤ most) (hp : ∀ c, p c = true → glue c = true)
    (hK : ∀ n, n ≤ t.length → kindOf (c :: t.take n) = if n + 1 ≤ most ∧ (t.take n).all p = true then k else 0) : firstF (c :: t) (c :: t).length = found (word k p most c t) := by
  have hr := run_le p t
  have hK' : ∀ n, n ≤ t.length → kindOf (c :: t.take n) = if n + 1 ≤ most ∧ n ≤ run p t then k else 0 := fun n hn => by
    rw [hK n hn]
    by_cases h : n ≤ run p t
    · have := (take_all (p := p) t n hn).2 h
      by_cases hm : n + 1 ≤ most
      · rw [if_pos ⟨hm, this⟩, if_pos ⟨hm, h⟩]
      · rw [if_neg (fun g => hm g.1), if_neg (fun g => hm g.1)]
    · rw [if_neg (fun g => h ((take_all (p := p) t n hn).1 g.2)), if_neg (fun g => h g.2)]
  have hl : (c :: t).length = t.length + 1 := rfl
  have hz : ∀ m, min (1 + run p t) most < m → m ≤ t.length + 1 → kindOf ((c :: t).take m) = 0 := fun m h1 h2 => by
    obtain ⟨j, rfl⟩ : ∃ j, m = j + 1 := ⟨m - 1, by omega⟩
    rw [List.take_succ_cons, hK' j (by omega), if_neg (by omega)]
  unfold word
  by_cases h1 : 1 + run p t ≤ most
  · have e : kindOf ((c :: t).take (run p t + 1)) = k := by
      rw [List.take_succ_cons, hK' _ hr, if_pos (by omega)]
    rw [firstF_top (m := run p t + 1) (by omega) e hk0 _ (by omega) (fun j g1 g2 => hz j (by omega) (by omega)), List.drop_succ_cons]
    cases hf : free (t.drop (run p t))
    · rw [if_pos ⟨hk6, rfl⟩, if_neg (by simp)]; rfl
    · rw [if_neg (by simp), if_pos ⟨h1, rfl⟩, Nat.add_comm]; rfl
  · obtain ⟨mo, rfl⟩ : ∃ mo, most = mo + 1 := ⟨most - 1, by omega⟩
    have e : kindOf ((c :: t).take (mo + 1)) = k := by
      rw [List.take_succ_cons, hK' mo (by omega), if_pos (by omega)]
    rw [firstF_top (m := mo + 1) (by omega) e hk0 _ (by omega) (fun j g1 g2 => hz j (by omega) (by omega)), List.drop_succ_cons]
    obtain ⟨d, r, hd, hp1⟩ := run_mid (p := p) (l := t) (k := mo) (by omega)
    have hg := hp d hp1
    rw [hd, if_pos ⟨hk6, by simp [free, hg]⟩, if_neg (fun g => h1 g.1)]
    rfl
theorem first_is (c : UInt8) (t : List UInt8) (hc : c ≠ 39) : firstF (c :: t) (c :: t).length = found (next (c :: t)) := by
  rw [next_cons]
  have hlen : ∀ n, n ≤ t.length → (c :: t.take n).length = n + 1 := fun n hn => by simp; omega
  by_cases h1 : small c = true
  · rw [if_pos h1]
    refine first_word (by decide) (by decide) (by decide) (fun _ => name_glue) fun n hn => ?_
    rw [kindOf_cons, next_cons, if_pos h1, of_word, hlen n hn]
  rw [if_neg h1]
  by_cases h2 : cap c = true
  · rw [if_pos h2]
    refine first_word (by decide) (by decide) (by decide) (fun _ => key_glue) fun n hn => ?_
    rw [kindOf_cons, next_cons, if_neg h1, if_pos h2, of_word, hlen n hn]
  rw [if_neg h2]
  by_cases h48 : c = 48
  · subst h48
    rw [if_pos rfl]
    have hK : ∀ n, n ≤ t.length → kindOf (48 :: t.take n) = if n = 0 then 3 else 0 := fun n hn => by
      rw [kindOf_cons, next_cons, if_neg h1, if_neg h2, if_pos rfl, hlen n hn]
      by_cases h0 : n = 0
      · subst h0; rfl
      · rw [if_neg h0]
        split
        · rw [ofF_some, if_neg (by omega)]
        · rfl
    rw [firstF_top (m := 1) (k := 3) (by omega) (by rw [List.take_succ_cons, hK 0 (by omega)]; rfl) (by decide) _ (by simp) (fun j g1 g2 => ?_), List.drop_succ_cons, List.drop_zero]
    · cases hf : free t <;> rfl
    · obtain ⟨i, rfl⟩ : ∃ i, j = i + 1 := ⟨j - 1, by omega⟩
      simp only [List.length_cons] at g2
      rw [List.take_succ_cons, hK i (by omega), if_neg (by omega)]
  rw [if_neg h48]
  by_cases h3 : dig c = true
  · rw [if_pos h3]
    refine first_word (by decide) (by decide) (by decide) (fun _ => dig_glue) fun n hn => ?_
    rw [kindOf_cons, next_cons, if_neg h1, if_neg h2, if_neg h48, if_pos h3, of_word, hlen n hn]
  rw [if_neg h3, if_neg hc]
  have hN : ∀ n, kindOf (c :: t.take n) = ofF (c :: t.take n).length (if c = 36 then param (t.take n) else sign c (t.take n)) := fun n => by
    rw [kindOf_cons, next_cons, if_neg h1, if_neg h2, if_neg h48, if_neg h3, if_neg hc]
  by_cases h5 : c = 36
  · rw [if_pos h5]
    have hN : ∀ n, kindOf (c :: t.take n) = ofF (c :: t.take n).length (param (t.take n)) := fun n => by rw [hN, if_pos h5]
    match t with
    | [] =>
      refine firstF_none _ fun m g1 g2 => ?_
      obtain rfl : m = 1 := by simp at g2; omega
      exact hN 0
    | d :: r =>
      have hK : ∀ n, n ≤ (d :: r).length → n ≠ 1 → kindOf (c :: (d :: r).take n) = 0 := fun n hn h => by
        rw [hN, hlen n hn]
        match n with
        | 0 => rfl
        | n + 1 =>
          rw [List.take_succ_cons, param_cons]
          split
          · rw [ofF_some, if_neg (by omega)]
          · rfl
      have hK1 : kindOf (c :: (d :: r).take 1) = if par d = true then 5 else 0 := by
        rw [hN, hlen 1 (by simp), List.take_succ_cons, List.take_zero, param_cons]
        cases par d <;> rfl
      rw [param_cons]
      by_cases hp : par d = true
      · rw [if_pos hp] at hK1
        rw [firstF_top (s := c :: d :: r) (m := 2) (k := 5) (by omega) hK1 (by decide) _ (by simp) (fun j g1 g2 => ?_), List.drop_succ_cons, List.drop_succ_cons, List.drop_zero]
        · cases hf : free r
          · rw [if_pos ⟨by decide, rfl⟩, if_neg (by simp)]; rfl
          · rw [if_neg (by simp), if_pos ⟨hp, rfl⟩]; rfl
        · obtain ⟨i, rfl⟩ : ∃ i, j = i + 1 := ⟨j - 1, by omega⟩
          simp only [List.length_cons] at g2
          rw [List.take_succ_cons]
          exact hK i (by simp; omega) (by omega)
      · rw [if_neg hp] at hK1
        rw [if_neg (fun g => hp g.1)]
        refine firstF_none _ fun m g1 g2 => ?_
        obtain ⟨i, rfl⟩ : ∃ i, m = i + 1 := ⟨m - 1, by omega⟩
        simp only [List.length_cons] at g2
        rw [List.take_succ_cons]
        by_cases hi : i = 1
        · rw [hi]; exact hK1
        · exact hK i (by simp; omega) hi
  · rw [if_neg h5]
    have hN : ∀ n, kindOf (c :: t.take n) = ofF (c :: t.take n).length (sign c (t.take n)) := fun n => by rw [hN, if_neg h5]
    have hK0 : kindOf (c :: t.take 0) = if single c = true then 6 else 0 := by
      rw [hN, List.take_zero, sign_nil]
      cases single c <;> rfl
    match t with
    | [] =>
      rw [sign_nil]
      by_cases hs : single c = true
      · rw [if_pos hs] at hK0 ⊢
        rw [firstF_top (s := [c]) (m := 1) (k := 6) (by omega) hK0 (by decide) _ (by simp) (fun j g1 g2 => by simp at g2; omega), if_neg (by simp)]
        rfl
      · rw [if_neg hs] at hK0 ⊢
        refine firstF_none _ fun m g1 g2 => ?_
        obtain rfl : m = 1 := by simp at g2; omega
        exact hK0
    | d :: r =>
      have hK : ∀ n, n ≤ (d :: r).length → 2 ≤ n → kindOf (c :: (d :: r).take n) = 0 := fun n hn h => by
        rw [hN, hlen n hn]
        match n, h with
        | n + 1, h =>
          rw [List.take_succ_cons, sign_cons]
          split
          · rw [ofF_some, if_neg (by omega)]
          · split
            · rw [ofF_some, if_neg (by omega)]
            · rfl
      have hK1 : kindOf (c :: (d :: r).take 1) = if two c d = true then 6 else 0 := by
        rw [hN, hlen 1 (by simp), List.take_succ_cons, List.take_zero, sign_cons]
        cases two c d
        · cases single c <;> rfl
        · rfl
      rw [sign_cons]
      by_cases h2 : two c d = true
      · rw [if_pos h2] at hK1 ⊢
        rw [firstF_top (s := c :: d :: r) (m := 2) (k := 6) (by omega) hK1 (by decide) _ (by simp) (fun j g1 g2 => ?_), if_neg (by simp)]
        · rfl
        · obtain ⟨i, rfl⟩ : ∃ i, j = i + 1 := ⟨j - 1, by omega⟩
          simp only [List.length_cons] at g2
          rw [List.take_succ_cons]
          exact hK i (by simp; omega) (by omega)
      · rw [if_neg h2] at hK1 ⊢
        have hz : ∀ j, 1 < j → j ≤ (c :: d :: r).length → kindOf ((c :: d :: r).take j) = 0 := fun j g1 g2 => by
          obtain ⟨i, rfl⟩ : ∃ i, j = i + 1 := ⟨j - 1, by omega⟩
          simp only [List.length_cons] at g2
          rw [List.take_succ_cons]
          by_cases hi : i = 1
          · rw [hi]; exact hK1
          · exact hK i (by simp; omega) (by omega)
        by_cases hs : single c = true
        · rw [if_pos hs] at hK0 ⊢
          rw [firstF_top (s := c :: d :: r) (m := 1) (k := 6) (by omega) hK0 (by decide) _ (by simp) hz, if_neg (by simp)]
          rfl
        · rw [if_neg hs] at hK0 ⊢
          refine firstF_none _ fun m g1 g2 => ?_
          by_cases hm : m = 1
          · rw [hm]; exact hK0
          · exact hz m (by omega) g2
end Go.Proofs.YtgbaolafedkbdaaGreatDoor.Lx
/- The document's own way to find the first token of a text (registrarref09.glued, First, shortest): it is next. -/
namespace Go.Proofs.YtgbaolafedkbdaaGreatDoor.Lx
open Go.RowKit Go.Proofs.YtgbaolafedkbdaaGreatDoor.Mem Go.Proofs.YtgbaolafedkbdaaGreatDoor.Right
set_option linter.unusedVariables false

theorem inS_glue : inS (smallsL ++ capsL ++ digsL ++ [95, 36]) = glue := by funext c; rw [inS_contains, glue_set]
theorem ext_list (s : ByteArray) (a b : Nat) : (s.extract a b).data.toList = (s.data.toList.drop a).take (b - a) := by
  simp [ByteArray.data_extract, Array.toList_extract, List.extract_eq_take_drop]
set_option maxHeartbeats 4000000 in
set_option maxRecDepth 100000 in
theorem glued_any (s : ByteArray) (n : Nat) (hs : s.size ≤ 1000000) (hn : n ≤ s.size) (w : World) :
    Calls Tryz.prog 52 #[.string s, .int .i64 (n : Int)] w fun e w' => e = .returned (.bool (!free (s.data.toList.drop n))) ∧ Below w.heap.size w w' := by
  have hll : s.data.toList.length = s.size := by rw [Array.length_toList]; rfl
  by_cases hlt : n < s.size
  · obtain ⟨c, t, hL⟩ : ∃ c t, s.data.toList.drop n = c :: t := by
      cases h : s.data.toList.drop n with
      | nil =>
        have := congrArg List.length h
        rw [List.length_drop, hll] at this
        simp at this
        omega
      | cons c t => exact ⟨c, t, rfl⟩
    have hx : (s.extract n (n + 1)).data.toList = [c] := by
      rw [ext_list, hL, show n + 1 - n = 1 by omega]
      rfl
    have HA := Lib.hid (show Calls Tryz.prog 87 #[.string (s.extract n (n + 1)), .int .i64 0, .string ⟨#[97, 98, 99, 100, 101, 102, 103, 104, 105, 106, 107, 108, 109, 110, 111, 112, 113, 114, 115, 116, 117, 118, 119, 120, 121, 122, 65, 66, 67, 68, 69, 70, 71, 72, 73, 74, 75, 76, 77, 78, 79, 80, 81, 82, 83, 84, 85, 86, 87, 88, 89, 90, 48, 49, 50, 51, 52, 53, 54, 55, 56, 57, 95, 36]⟩] w fun e w' => e = .returned (.bool (!free (s.data.toList.drop n))) ∧ Below w.heap.size w w' from by
      have := all_any (s.extract n (n + 1)) ⟨#[97, 98, 99, 100, 101, 102, 103, 104, 105, 106, 107, 108, 109, 110, 111, 112, 113, 114, 115, 116, 117, 118, 119, 120, 121, 122, 65, 66, 67, 68, 69, 70, 71, 72, 73, 74, 75, 76, 77, 78, 79, 80, 81, 82, 83, 84, 85, 86, 87, 88, 89, 90, 48, 49, 50, 51, 52, 53, 54, 55, 56, 57, 95, 36]⟩ 0 (by rw [ByteArray.size_extract]; omega) (by decide) (by omega) w
      rw [show (⟨#[97, 98, 99, 100, 101, 102, 103, 104, 105, 106, 107, 108, 109, 110, 111, 112, 113, 114, 115, 116, 117, 118, 119, 120, 121, 122, 65, 66, 67, 68, 69, 70, 71, 72, 73, 74, 75, 76, 77, 78, 79, 80, 81, 82, 83, 84, 85, 86, 87, 88, 89, 90, 48, 49, 50, 51, 52, 53, 54, 55, 56, 57, 95, 36]⟩ : ByteArray).data.toList = smallsL ++ capsL ++ digsL ++ [95, 36] from rfl, inS_glue, List.drop_zero, hx, List.all_cons, List.all_nil, Bool.and_true] at this
      rw [hL, show (!free (c :: t)) = glue c by simp [free]]
      exact this)
    have t0 : decide ((n : Int) < (s.size : Int)) = true := decide_eq_true (by omega)
    clear hx hL
    go_enter Tryz.func52, Tryz.ntmps52
    go_wp2_with (go_at_call 87; (refine HA.out.mono ?_); rintro e' w1 ⟨rfl, hb⟩; have HB := Lib.hid hb; clear hb)
    go_ret
    exact ⟨rfl, HB.out⟩
  · have hL : s.data.toList.drop n = [] := List.drop_eq_nil_of_le (by omega)
    have t0 : decide ((n : Int) < (s.size : Int)) = false := decide_eq_false (by omega)
    rw [hL]
    clear hL
    go_enter Tryz.func52, Tryz.ntmps52
    go_wp2
    go_ret
    exact ⟨rfl, Below.refl _ _⟩
/-- First is firstF. -/
theorem firstF_step (l : List UInt8) (n : Nat) : firstF l (n + 1) = if kindOf (l.take (n + 1)) = 0 then firstF l n
    else if kindOf (l.take (n + 1)) ≠ 6 ∧ free (l.drop (n + 1)) = false then (0, 0) else (kindOf (l.take (n + 1)), n + 1) := rfl
set_option maxHeartbeats 4000000 in
set_option maxRecDepth 100000 in
theorem first_any (s : ByteArray) (hs : s.size ≤ 1000000) (w : World) :
    Calls Tryz.prog 31 #[.string s] w fun e w' => e = .returned (.tuple #[.int .i64 ((firstF s.data.toList s.size).1 : Int), .int .i64 ((firstF s.data.toList s.size).2 : Int)]) ∧ Below w.heap.size w w' := by
  have HK := Lib.hid (fun (n : Nat) (W : World) => refKind_any (s.extract 0 n) (by rw [ByteArray.size_extract]; omega) W)
  have HG := Lib.hid (fun (n : Nat) (hn : n ≤ s.size) (W : World) => glued_any s n hs hn W)
  obtain ⟨V, hV⟩ : ∃ V, firstF s.data.toList s.size = V := ⟨_, rfl⟩
  rw [hV]
  have HV := Lib.hid hV
  clear hV
  go_enter Tryz.func31, Tryz.ntmps31
  go_wp2
  go_loopw [4] (fun i wr => ∃ n : Nat, n ≤ s.size ∧ i = .int .i64 (n : Int) ∧ Hid (firstF s.data.toList n = V) ∧ Hid (Below w.heap.size w wr)) (fun i _ => (intOf i).toNat)
  case atStart => exact ⟨s.size, Nat.le_refl _, rfl, HV, Lib.hid (Below.refl _ _)⟩
  case round =>
    obtain ⟨n, hn, rfl, HF, HB⟩ := hrel
    cases n with
    | zero =>
      have hv := HF.out
      subst hv
      go_wp2
      go_ret2
      exact ⟨rfl, HB.out⟩
    | succ n =>
      have tl : decide (0 < ((n + 1 : Nat) : Int)) = true := decide_eq_true (by omega)
      have hx : (s.extract 0 (n + 1)).data.toList = s.data.toList.take (n + 1) := by rw [ext_list, List.drop_zero, Nat.sub_zero]
      have hstep := firstF_step s.data.toList n
      rw [HF.out] at hstep
      obtain ⟨k, hk⟩ : ∃ k, kindOf (s.data.toList.take (n + 1)) = k := ⟨_, rfl⟩
      rw [hk] at hstep
      have HKn := Lib.hid (show ∀ W, Calls Tryz.prog 51 #[.string (s.extract 0 (n + 1))] W fun e w' => e = .returned (.int .i64 (k : Int)) ∧ Below W.heap.size W w' from fun W => by
        have := HK.out (n + 1) W
        rwa [hx, hk] at this)
      have HGn := Lib.hid (show ∀ W, Calls Tryz.prog 52 #[.string s, .int .i64 ((n + 1 : Nat) : Int)] W fun e w' => e = .returned (.bool (!free (s.data.toList.drop (n + 1)))) ∧ Below W.heap.size W w' from HG.out (n + 1) hn)
      clear hx hk
      by_cases k0 : k = 0
      · subst k0
        rw [if_pos rfl] at hstep
        have HS := Lib.hid hstep
        clear hstep
        go_wp2_with (go_at_call 51; (refine (HKn.out _).mono ?_); rintro e' w1 ⟨rfl, hb⟩; have HB1 := Lib.hid (Mem.on HB.out hb); clear hb)
        go_roundw
        case rel => exact ⟨n, by omega, by go_num, Lib.hid HS.out.symm, HB1⟩
        case measure => simp [intOf]
      rw [if_neg k0] at hstep
      have tk0 : ((k : Int) == 0) = false := beq_no (by omega)
      by_cases k6 : k = 6
      · subst k6
        rw [if_neg (by simp)] at hstep
        have HS := Lib.hid hstep
        clear hstep
        go_wp2_with (go_at_call 51; (refine (HKn.out _).mono ?_); rintro e' w1 ⟨rfl, hb⟩; have HB1 := Lib.hid (Mem.on HB.out hb); clear hb)
        go_ret2
        rw [HS.out]
        exact ⟨rfl, HB1.out⟩
      have tk6 : ((k : Int) != 6) = true := bne_yes (by omega)
      cases hfr : free (s.data.toList.drop (n + 1)) with
      | true =>
        rw [hfr] at hstep HGn
        rw [if_neg (by simp)] at hstep
        have HS := Lib.hid hstep
        clear hstep hfr k0 k6
        go_wp2_with (first | (go_at_call 51; (refine (HKn.out _).mono ?_); rintro e' w1 ⟨rfl, hb⟩; have HB1 := Lib.hid (Mem.on HB.out hb); clear hb) | (go_at_call 52; (refine (HGn.out _).mono ?_); rintro e' w2 ⟨rfl, hb⟩; have HB2 := Lib.hid (Mem.on HB1.out hb); clear hb))
        go_ret2
        rw [HS.out]
        exact ⟨rfl, HB2.out⟩
      | false =>
        rw [hfr] at hstep HGn
        rw [if_pos ⟨k6, rfl⟩] at hstep
        have HS := Lib.hid hstep
        clear hstep hfr k0 k6
        go_wp2_with (first | (go_at_call 51; (refine (HKn.out _).mono ?_); rintro e' w1 ⟨rfl, hb⟩; have HB1 := Lib.hid (Mem.on HB.out hb); clear hb) | (go_at_call 52; (refine (HGn.out _).mono ?_); rintro e' w2 ⟨rfl, hb⟩; have HB2 := Lib.hid (Mem.on HB1.out hb); clear hb))
        go_ret2
        rw [HS.out]
        exact ⟨rfl, HB2.out⟩
/-- What shortest answers of a quoted text. -/
def quoN (l : List UInt8) (k : Nat) : Nat := match quo l with | some n => k + n | none => 0
theorem quoN_nil (k : Nat) : quoN [] k = 0 := rfl
theorem quoN_bad {c : UInt8} (r : List UInt8) (k : Nat) (h : plainB c = false) : quoN (c :: r) k = 0 := by
  have h39 : c ≠ 39 := fun e => by subst e; exact absurd h (by decide)
  cases r with
  | nil => simp [quoN, quo, h39]
  | cons d t => simp [quoN, quo, h39, h]
theorem quoN_end (k : Nat) : quoN [39] k = k + 1 := rfl
theorem quoN_one {d : UInt8} (t : List UInt8) (k : Nat) (h : d ≠ 39) : quoN (39 :: d :: t) k = k + 1 := by simp [quoN, quo, h]
theorem quoN_two (t : List UInt8) (k : Nat) : quoN (39 :: 39 :: t) k = quoN t (k + 2) := by
  simp only [quoN, quo, if_true]
  cases quo t with
  | none => rfl
  | some n => show k + (n + 2) = k + 2 + n; omega
theorem quoN_on {c : UInt8} (r : List UInt8) (k : Nat) (h : plainB c = true) (h39 : c ≠ 39) : quoN (c :: r) k = quoN r (k + 1) := by
  cases r with
  | nil => simp [quoN, quo, h39]
  | cons d t =>
    simp only [quoN, quo, if_neg h39, if_pos h]
    cases quo (d :: t) with
    | none => rfl
    | some n => show k + (n + 1) = k + 1 + n; omega
end Go.Proofs.YtgbaolafedkbdaaGreatDoor.Lx
/- The document's own way to find the end of a quoted text (registrarref09.shortest): it is quo. -/
namespace Go.Proofs.YtgbaolafedkbdaaGreatDoor.Lx
open Go.RowKit Go.Proofs.YtgbaolafedkbdaaGreatDoor.Mem Go.Proofs.YtgbaolafedkbdaaGreatDoor.Right
set_option linter.unusedVariables false

theorem drop_byte (s : ByteArray) (k : Nat) (h : k < s.size) : s.data.toList.drop k = s[k] :: s.data.toList.drop (k + 1) := by
  have hl : k < s.data.toList.length := by rw [Array.length_toList]; exact h
  rw [List.drop_eq_getElem_cons hl]
  congr 1
set_option maxHeartbeats 4000000 in
set_option maxRecDepth 100000 in
theorem shortest_any (s : ByteArray) (hs : s.size ≤ 1000000) (h1 : 1 ≤ s.size) (w : World) :
    Calls Tryz.prog 30 #[.string s] w fun e w' => e = .returned (.int .i64 (quoN (s.data.toList.drop 1) 1 : Int)) ∧ Below w.heap.size w w' := by
  obtain ⟨V, hV⟩ : ∃ V, quoN (s.data.toList.drop 1) 1 = V := ⟨_, rfl⟩
  rw [hV]
  have HV := Lib.hid hV
  clear hV
  go_enter Tryz.func30, Tryz.ntmps30
  go_wp2
  go_loopw [3] (fun i wr => ∃ k : Nat, 1 ≤ k ∧ k ≤ s.size ∧ i = .int .i64 (k : Int) ∧ Hid (quoN (s.data.toList.drop k) k = V) ∧ Hid (Below w.heap.size w wr)) (fun i _ => s.size + 1 - (intOf i).toNat)
  case atStart => exact ⟨1, Nat.le_refl _, h1, rfl, HV, Lib.hid (Below.refl _ _)⟩
  case round =>
    obtain ⟨k, hk1, hk, rfl, HF, HB⟩ := hrel
    by_cases hlt : k < s.size
    · have tl : decide ((k : Int) < (s.size : Int)) = true := decide_eq_true (by omega)
      have hd := drop_byte s k hlt
      obtain ⟨c, hc⟩ : ∃ c, s[k] = c := ⟨_, rfl⟩
      rw [hc] at hd
      have hF := HF.out
      rw [hd] at hF
      cases hp : plainB c with
      | false =>
        rw [quoN_bad _ _ hp] at hF
        subst hF
        by_cases h32 : c.toNat < 32
        · have t1 : decide ((c.toNat : Int) < 32) = true := decide_eq_true (by omega)
          clear hp hd
          go_wp2
          go_ret
          exact ⟨rfl, HB.out⟩
        · have t1 : decide ((c.toNat : Int) < 32) = false := decide_eq_false (by omega)
          have t2 : decide (126 < (c.toNat : Int)) = true := decide_eq_true (by
            unfold plainB at hp
            simp [UInt8.le_iff_toNat_le] at hp
            have := hp (by omega)
            omega)
          clear hp hd
          go_wp2
          go_ret
          exact ⟨rfl, HB.out⟩
      | true =>
        have hb : 32 ≤ c.toNat ∧ c.toNat ≤ 126 := by
          unfold plainB at hp
          simpa [UInt8.le_iff_toNat_le] using hp
        have t1 : decide ((c.toNat : Int) < 32) = false := decide_eq_false (by omega)
        have t2 : decide (126 < (c.toNat : Int)) = false := decide_eq_false (by omega)
        have hk6 : k + 1 ≤ 1000001 := by omega
        by_cases h39 : c = 39
        · have t3 : ((c.toNat : Int) == 39) = true := by subst h39; rfl
          by_cases hend : k + 1 = s.size
          · have t4 : (((k : Int) + 1) == (s.size : Int)) = true := by rw [beq_iff_eq]; omega
            have hv : V = k + 1 := by
              rw [← hF, h39, show s.data.toList.drop (k + 1) = [] from List.drop_eq_nil_of_le (by rw [Array.length_toList]; exact Nat.le_of_eq hend.symm)]
              rfl
            subst hv
            clear hF hd hp h39
            go_wp2
            go_ret
            exact ⟨rfl, HB.out⟩
          · have t4 : (((k : Int) + 1) == (s.size : Int)) = false := beq_no (by omega)
            have hlt2 : k + 1 < s.size := by omega
            have hd2 := drop_byte s (k + 1) hlt2
            obtain ⟨d, hdd⟩ : ∃ d, s[k + 1] = d := ⟨_, rfl⟩
            rw [hdd] at hd2
            rw [hd2, h39] at hF
            by_cases hd39 : d = 39
            · have t5 : ((d.toNat : Int) != 39) = false := by subst hd39; rfl
              rw [hd39, quoN_two] at hF
              have HF2 := Lib.hid hF
              clear hF hd hd2 hp h39 hd39
              go_wp2
              go_roundw
              case rel => exact ⟨k + 2, by omega, by omega, by go_num, HF2, HB⟩
              case measure => simp [intOf]; omega
            · have t5 : ((d.toNat : Int) != 39) = true := bne_yes (fun e => hd39 (UInt8.toNat_inj.1 (show _ = 39 by omega)))
              rw [quoN_one _ _ hd39] at hF
              subst hF
              clear hd hd2 hp h39 hd39
              go_wp2
              go_ret
              exact ⟨rfl, HB.out⟩
        · have t3 : ((c.toNat : Int) == 39) = false := beq_no (fun e => h39 (UInt8.toNat_inj.1 (show _ = 39 by omega)))
          rw [quoN_on _ _ hp h39] at hF
          have HF2 := Lib.hid hF
          clear hF hd hp h39
          go_wp2
          go_roundw
          case rel => exact ⟨k + 1, by omega, by omega, by go_num, HF2, HB⟩
          case measure => simp [intOf]; omega
    · have tl : decide ((k : Int) < (s.size : Int)) = false := decide_eq_false (by omega)
      have hv : V = 0 := by
        rw [← HF.out, show s.data.toList.drop k = [] from List.drop_eq_nil_of_le (by rw [Array.length_toList]; exact Nat.le_of_not_lt hlt)]
        rfl
      subst hv
      go_wp2
      go_ret
      exact ⟨rfl, HB.out⟩
end Go.Proofs.YtgbaolafedkbdaaGreatDoor.Lx
/- The document's own lexer (registrarref09.Tokens): its error is toksV's. -/
namespace Go.Proofs.YtgbaolafedkbdaaGreatDoor.Lx
open Go.RowKit Go.Proofs.YtgbaolafedkbdaaGreatDoor.Mem Go.Proofs.YtgbaolafedkbdaaGreatDoor.Right
set_option linter.unusedVariables false

theorem elem_rtok : ElemN Tryz.prog 24 27 3 32 := ElemN.of (z := .agg #[.int .i64 0, .string ByteArray.empty, .int .i64 0]) Tryz.underlying24 (by kernel_rfl) rfl (by decide)
/-- The error of a text that is cut from a place on, when so many tokens are out. -/
def eCut (l : List UInt8) (a n : Nat) : Nat := (cut (l.drop a) a n).2.2
theorem eCut_end {l : List UInt8} {a n g : Nat} (hg : run blank (l.drop a) = g) (h : l.drop (a + g) = []) : eCut l a n = if n = 120 then 5 else 0 := by
  unfold eCut
  rw [cut_end (by rw [hg, List.drop_drop]; exact h)]
  split <;> rfl
theorem eCut_none {l : List UInt8} {a n g : Nat} (hg : run blank (l.drop a) = g) (h : l.drop (a + g) ≠ []) (hn : next (l.drop (a + g)) = none) : eCut l a n = 15 := by
  unfold eCut
  rw [cut_none (u := l.drop (a + g)) (by rw [hg, List.drop_drop]) h hn]
theorem eCut_full {l : List UInt8} {a g k m : Nat} (hg : run blank (l.drop a) = g) (hn : next (l.drop (a + g)) = some (k, m)) : eCut l a 120 = 5 := by
  unfold eCut
  rw [cut_full (u := l.drop (a + g)) (by rw [hg, List.drop_drop]) hn]
theorem eCut_some {l : List UInt8} {a n g k m : Nat} (hg : run blank (l.drop a) = g) (hn : next (l.drop (a + g)) = some (k, m)) (h1 : n ≠ 120) : eCut l a n = eCut l (a + g + m) (n + 1) := by
  unfold eCut
  rw [cut_some (u := l.drop (a + g)) (by rw [hg, List.drop_drop]) hn h1, hg, List.drop_drop]
  split <;> rfl
/-- A byte within a run, and the one behind it. -/
theorem run_in {p : UInt8 → Bool} : ∀ {l : List UInt8} {j : Nat}, j < run p l → ∃ c, l[j]? = some c ∧ p c = true
  | [], j, h => by simp [run_nil] at h
  | c :: t, j, h => by
    rw [run_cons] at h
    split at h
    · rename_i hc
      cases j with
      | zero => exact ⟨c, rfl, hc⟩
      | succ j => rw [List.getElem?_cons_succ]; exact run_in (by omega)
    · omega
/-- What the document's lexer finds first: a kind and a length. -/
def fst (l : List UInt8) : Nat × Nat := found (next l)
theorem fst_quo (t : List UInt8) : fst (39 :: t) = if quoN t 1 = 0 then (0, 0) else (4, quoN t 1) := by
  unfold fst
  have e : next (39 :: t) = (quo t).map fun n => (4, n + 1) := by simp [next, small, cap, dig]
  rw [e]
  unfold quoN
  cases h : quo t with
  | none => simp [found]
  | some n => simp [found]; omega
theorem fst_none {l : List UInt8} {k : Nat} (h : fst l = (k, 0)) : next l = none := by
  unfold fst at h
  cases hn : next l with
  | none => rfl
  | some x =>
    rw [hn] at h
    have h : x = (k, 0) := h
    subst h
    have := (next_le hn).1
    omega
theorem fst_some {l : List UInt8} {k z : Nat} (h : fst l = (k, z)) (hz : z ≠ 0) : next l = some (k, z) := by
  unfold fst at h
  cases hn : next l with
  | none => rw [hn] at h; exact absurd (congrArg Prod.snd h).symm hz
  | some x => rw [hn] at h; exact congrArg some h
theorem own_on {w w' : World} {base : Nat} {e : TypeId} {k n : Nat} {v : Value} {us : List Value} (h : w.ownsRow base e k v n us) (hb : Below w.heap.size w w') : w'.ownsRow base e k v n us := by
  obtain ⟨h1, h2⟩ := h
  refine ⟨h1, ?_⟩
  rcases h2 with h2 | ⟨g, cap, cur, e, hg, hh, rest⟩
  · exact .inl h2
  · refine .inr ⟨g, cap, cur, e, hg, ?_, rest⟩
    have hlt : g < w.heap.size := by
      rcases Nat.lt_or_ge g w.heap.size with h3 | h3
      · exact h3
      · rw [Array.getElem?_eq_none h3] at hh; cases hh
    rw [hb.block g hlt]; exact hh
set_option maxHeartbeats 8000000 in
set_option maxRecDepth 100000 in
theorem refToks_any (s : ByteArray) (hs : s.size ≤ 400) (w : World) :
    Calls Tryz.prog 14 #[.string s] w fun e w' => ∃ A n c p, e = .returned (.tuple #[.slice A n c, .int .i64 p, .int .i64 (eCut s.data.toList 0 0 : Int)]) ∧ Below w.heap.size w w' := by
  have t0 : decide (400 < (s.size : Int)) = false := decide_eq_false (by omega)
  obtain ⟨V, hV⟩ : ∃ V, eCut s.data.toList 0 0 = V := ⟨_, rfl⟩
  obtain ⟨L, hL⟩ : ∃ L, s.data.toList = L := ⟨_, rfl⟩
  have hll : L.length = s.size := by rw [← hL, Array.length_toList]; rfl
  rw [hL] at hV ⊢
  rw [hV]
  have HV := Lib.hid hV
  have hL := Lib.hid hL
  have HLL := Lib.hid hll
  have HB0 := Lib.hid (Below.refl w.heap.size w)
  have HO0 := Lib.hid (World.ownsRow_nil w w.heap.size 27 3)
  clear hV hll
  go_enter Tryz.func14, Tryz.ntmps14
  go_wp2
  go_loopw [5, 6] (fun l i wr => ∃ (done : List Tk) (A : Option Addr) (n c a : Nat), l = .slice A n c ∧ i = .int .i64 (a : Int) ∧ n ≤ 120 ∧ a ≤ s.size ∧ Hid (eCut L a n = V) ∧ Hid (wr.ownsRow w.heap.size 27 3 (.slice A n c) n (tcells done)) ∧ Hid (Below w.heap.size w wr)) (fun _ i _ => s.size + 1 - (intOf i).toNat)
  case atStart => exact ⟨[], none, 0, 0, 0, rfl, rfl, Nat.zero_le _, Nat.zero_le _, HV, HO0, HB0⟩
  case round =>
    obtain ⟨done, A, n, c, a, rfl, rfl, hn, ha, HF, HO', HB'⟩ := hrel
    obtain ⟨g, hg⟩ : ∃ g, run blank (L.drop a) = g := ⟨_, rfl⟩
    have hgl : a + g ≤ s.size := by
      have := run_le blank (L.drop a)
      rw [hg, List.length_drop, HLL.out] at this
      omega
    obtain ⟨a2, ha2⟩ : ∃ a2, a + g = a2 := ⟨_, rfl⟩
    have HG := Lib.hid hg
    have H2 := Lib.hid ha2
    have ha2s : a2 ≤ s.size := by omega
    have haa2 : a ≤ a2 := by omega
    clear hg ha2 hgl
    go_wp2
    go_loopw [6] (fun i wr => ∃ b : Nat, a ≤ b ∧ b ≤ a2 ∧ i = .int .i64 (b : Int) ∧ Hid (wr.ownsRow w.heap.size 27 3 (.slice A n c) n (tcells done)) ∧ Hid (Below w.heap.size w wr)) (fun i _ => a2 + 1 - (intOf i).toNat)
    case atStart => exact ⟨a, Nat.le_refl _, haa2, rfl, HO', HB'⟩
    case round =>
      obtain ⟨b, hab, hb2, rfl, HO, HB⟩ := hrel
      by_cases hlt : b < a2
      · have hbs : b < s.size := by omega
        have tl : decide ((b : Int) < (s.size : Int)) = true := decide_eq_true (by omega)
        obtain ⟨x, hx⟩ : ∃ x, s[b] = x := ⟨_, rfl⟩
        have hbl : blank x = true := by
          obtain ⟨y, hy, hb⟩ := run_in (p := blank) (l := L.drop a) (j := b - a) (by have := HG.out; have := H2.out; omega)
          rw [List.getElem?_drop, show a + (b - a) = b by omega, ← hL.out, byte_at s b hbs, hx] at hy
          injection hy with hy
          rw [hy]; exact hb
        rcases blank_cases hbl with h | h
        · have t1 : ((x.toNat : Int) == 32) = true := by rw [h]; rfl
          clear hbl h
          go_wp2
          go_roundw
          case rel => exact ⟨b + 1, by omega, by omega, by go_num, HO, HB⟩
          case measure => simp [intOf]; omega
        · have t1 : ((x.toNat : Int) == 32) = false := by rw [h]; rfl
          have t2 : ((x.toNat : Int) == 10) = true := by rw [h]; rfl
          clear hbl h
          go_wp2
          go_roundw
          case rel => exact ⟨b + 1, by omega, by omega, by go_num, HO, HB⟩
          case measure => simp [intOf]; omega
      obtain rfl : b = a2 := by omega
      by_cases hend : b = s.size
      · have tl : decide ((b : Int) < (s.size : Int)) = false := decide_eq_false (by omega)
        have te : ((b : Int) == (s.size : Int)) = true := by rw [hend]; simp
        have hv : V = if n = 120 then 5 else 0 := by
          rw [← HF.out]
          exact eCut_end HG.out (by rw [H2.out]; exact List.drop_eq_nil_of_le (by rw [HLL.out]; omega))
        by_cases hn120 : n = 120
        · rw [if_pos hn120] at hv
          subst hv hn120
          go_wp2
          go_ret3
          exact ⟨none, 0, 0, b, rfl, HB.out⟩
        · rw [if_neg hn120] at hv
          have tn : ((n : Int) == 120) = false := beq_no (by omega)
          subst hv
          go_wp2_with (at_builtin; refine wp_tok (x := ⟨7, [], s.size⟩) elem_rtok w.heap.size rfl (.tmp 75) (.tmp 78) rfl rfl rfl HO.out rfl (by omega) (by omega) HB.out.size ?_; intro v' w2 ho2 hg2; have HO2 := Lib.hid ho2; have HB2 := Lib.hid ((al HB.out (.cells #[.int .i64 ((7 : Nat) : Int), .string (txt []), .int .i64 (s.size : Int)] 27)).grown hg2 (by have := HB.out.size; simp; omega) (fun j hj => (HO.out.lt j hj).1)); clear ho2 hg2)
          go_ret3
          obtain ⟨A', c', rfl, ht, hl⟩ := toks_own HO2.out
          exact ⟨A', n + 1, c', 0, rfl, HB2.out⟩
      have hbs : b < s.size := by omega
      have tl : decide ((b : Int) < (s.size : Int)) = true := decide_eq_true (by omega)
      have te : ((b : Int) == (s.size : Int)) = false := beq_no (by omega)
      have hdr := drop_byte s b hbs
      rw [hL.out] at hdr
      obtain ⟨x, hx0⟩ : ∃ x, s[b] = x := ⟨_, rfl⟩
      rw [hx0] at hdr
      have hnb : blank x = false := run_stop (p := blank) (s := L.drop a) x (L.drop (b + 1)) (by rw [HG.out, List.drop_drop, H2.out]; exact hdr)
      have t1 : ((x.toNat : Int) == 32) = false := beq_no (fun e => by
        have : x = 32 := UInt8.toNat_inj.1 (show _ = 32 by omega)
        subst this; exact absurd hnb (by decide))
      have t2 : ((x.toNat : Int) == 10) = false := beq_no (fun e => by
        have : x = 10 := UInt8.toNat_inj.1 (show _ = 10 by omega)
        subst this; exact absurd hnb (by decide))
      have HNE := Lib.hid (show L.drop b ≠ [] by rw [hdr]; simp)
      have hex : (s.extract b s.size).data.toList = L.drop b := by rw [drop_all, hL.out]
      have hsz : (s.extract b s.size).size = s.size - b := by rw [ByteArray.size_extract]; omega
      by_cases h39 : x = 39
      · have t3 : ((x.toNat : Int) == 39) = true := by subst h39; rfl
        have hfq := fst_quo (L.drop (b + 1))
        rw [h39] at hdr
        rw [← hdr] at hfq
        obtain ⟨z, hz⟩ : ∃ z, quoN (L.drop (b + 1)) 1 = z := ⟨_, rfl⟩
        rw [hz] at hfq
        have CS := Lib.hid (show ∀ W, Calls Tryz.prog 30 #[.string (s.extract b s.size)] W fun e w' => e = .returned (.int .i64 (z : Int)) ∧ Below W.heap.size W w' from fun W => by
          have := shortest_any (s.extract b s.size) (by omega) (by omega) W
          rw [hex, List.drop_drop, hz] at this
          exact this)
        have HZ := Lib.hid (show z = 0 → next (L.drop b) = none from fun h => by
          rw [if_pos h] at hfq
          exact fst_none hfq)
        have HS := Lib.hid (show z ≠ 0 → next (L.drop b) = some (4, z) from fun h => by
          rw [if_neg h] at hfq
          exact fst_some hfq h)
        clear hfq hz hdr hnb hex hsz h39
        by_cases z0 : z = 0
        · subst z0
          have hv : V = 15 := by rw [← HF.out]; exact eCut_none HG.out (by rw [H2.out]; exact HNE.out) (by rw [H2.out]; exact HZ.out rfl)
          subst hv
          go_wp2_with (go_at_call 30; (refine (CS.out _).mono ?_); rintro e' w1 ⟨rfl, hb⟩; have HB1 := Lib.hid (Mem.on HB.out hb); have HO1 := Lib.hid (own_on HO.out hb); clear hb)
          go_ret3
          exact ⟨none, 0, 0, b, rfl, HB1.out⟩
        have tz : ((z : Int) == 0) = false := beq_no (by omega)
        have HN := Lib.hid (HS.out z0)
        by_cases hn120 : n = 120
        · subst hn120
          have hv : V = 5 := by rw [← HF.out]; exact eCut_full HG.out (by rw [H2.out]; exact HN.out)
          subst hv
          go_wp2_with (go_at_call 30; (refine (CS.out _).mono ?_); rintro e' w1 ⟨rfl, hb⟩; have HB1 := Lib.hid (Mem.on HB.out hb); have HO1 := Lib.hid (own_on HO.out hb); clear hb)
          go_ret3
          exact ⟨none, 0, 0, b, rfl, HB1.out⟩
        have tn : ((n : Int) == 120) = false := beq_no (by omega)
        have hzl : b + z ≤ s.size := by
          have := next_le HN.out
          rw [List.length_drop, HLL.out] at this
          omega
        obtain ⟨a3, ha3⟩ : ∃ a3, b + z = a3 := ⟨_, rfl⟩
        have e3 : (b : Int) + (z : Int) = (a3 : Int) := by omega
        have hx : s.extract b a3 = txt ((L.drop b).take z) := by rw [← hL.out, extract_txt]; congr 2; omega
        have hb3 : b ≤ a3 := by omega
        have HF3 := Lib.hid (show eCut L a3 (n + 1) = V by rw [← HF.out, eCut_some HG.out (by rw [H2.out]; exact HN.out) hn120, H2.out, ha3])
        have hz1 : 1 ≤ z := by omega
        have ha3s : a3 ≤ s.size := by omega
        have HA3 := Lib.hid ha3
        clear ha3 hzl
        go_wp2_with (first | (go_at_call 30; (refine (CS.out _).mono ?_); rintro e' w1 ⟨rfl, hb⟩; have HB1 := Lib.hid (Mem.on HB.out hb); have HO1 := Lib.hid (own_on HO.out hb); clear hb) | (at_builtin; refine wp_tok (x := ⟨4, (L.drop b).take z, b⟩) elem_rtok w.heap.size rfl (.tmp 56) (.tmp 66) rfl rfl rfl HO1.out rfl (by omega) (by omega) HB1.out.size ?_; intro v' w2 ho2 hg2; have HO2 := Lib.hid ho2; have HB2 := Lib.hid ((al HB1.out (.cells #[.int .i64 ((4 : Nat) : Int), .string (txt ((L.drop b).take z)), .int .i64 (b : Int)] 27)).grown hg2 (by have := HB1.out.size; simp; omega) (fun j hj => (HO1.out.lt j hj).1)); clear ho2 hg2))
        obtain ⟨A', c', rfl, _, _⟩ := toks_own HO2.out
        have ha3 := HA3.out
        go_roundw
        case rel => exact ⟨done ++ [⟨4, (L.drop b).take z, b⟩], A', n + 1, c', a3, rfl, rfl, by omega, by omega, HF3, HO2, HB2⟩
        case measure => simp [intOf]; omega
      · have t3 : ((x.toNat : Int) == 39) = false := beq_no (fun e => h39 (UInt8.toNat_inj.1 (show _ = 39 by omega)))
        have hfi := first_is x (L.drop (b + 1)) h39
        rw [← hdr] at hfi
        obtain ⟨⟨k, z⟩, hz⟩ : ∃ r, found (next (L.drop b)) = r := ⟨_, rfl⟩
        rw [hz] at hfi
        have CF := Lib.hid (show ∀ W, Calls Tryz.prog 31 #[.string (s.extract b s.size)] W fun e w' => e = .returned (.tuple #[.int .i64 (k : Int), .int .i64 (z : Int)]) ∧ Below W.heap.size W w' from fun W => by
          have := first_any (s.extract b s.size) (by omega) W
          rw [hex, show (s.extract b s.size).size = (L.drop b).length by rw [hsz, List.length_drop, HLL.out], hfi] at this
          exact this)
        have HZ := Lib.hid (show z = 0 → next (L.drop b) = none from fun h => fst_none (k := k) (by unfold fst; rw [hz, h]))
        have HS := Lib.hid (show z ≠ 0 → next (L.drop b) = some (k, z) from fun h => fst_some (by unfold fst; exact hz) h)
        clear hfi hz hdr hnb hex hsz h39
        by_cases z0 : z = 0
        · subst z0
          have hv : V = 15 := by rw [← HF.out]; exact eCut_none HG.out (by rw [H2.out]; exact HNE.out) (by rw [H2.out]; exact HZ.out rfl)
          subst hv
          go_wp2_with (go_at_call 31; (refine (CF.out _).mono ?_); rintro e' w1 ⟨rfl, hb⟩; have HB1 := Lib.hid (Mem.on HB.out hb); have HO1 := Lib.hid (own_on HO.out hb); clear hb)
          go_ret3
          exact ⟨none, 0, 0, b, rfl, HB1.out⟩
        have tz : ((z : Int) == 0) = false := beq_no (by omega)
        have HN := Lib.hid (HS.out z0)
        by_cases hn120 : n = 120
        · subst hn120
          have hv : V = 5 := by rw [← HF.out]; exact eCut_full HG.out (by rw [H2.out]; exact HN.out)
          subst hv
          go_wp2_with (go_at_call 31; (refine (CF.out _).mono ?_); rintro e' w1 ⟨rfl, hb⟩; have HB1 := Lib.hid (Mem.on HB.out hb); have HO1 := Lib.hid (own_on HO.out hb); clear hb)
          go_ret3
          exact ⟨none, 0, 0, b, rfl, HB1.out⟩
        have tn : ((n : Int) == 120) = false := beq_no (by omega)
        have hzl : b + z ≤ s.size := by
          have := next_le HN.out
          rw [List.length_drop, HLL.out] at this
          omega
        obtain ⟨a3, ha3⟩ : ∃ a3, b + z = a3 := ⟨_, rfl⟩
        have e3 : (b : Int) + (z : Int) = (a3 : Int) := by omega
        have hx : s.extract b a3 = txt ((L.drop b).take z) := by rw [← hL.out, extract_txt]; congr 2; omega
        have hb3 : b ≤ a3 := by omega
        have HF3 := Lib.hid (show eCut L a3 (n + 1) = V by rw [← HF.out, eCut_some HG.out (by rw [H2.out]; exact HN.out) hn120, H2.out, ha3])
        have hz1 : 1 ≤ z := by omega
        have ha3s : a3 ≤ s.size := by omega
        have HA3 := Lib.hid ha3
        clear ha3 hzl
        go_wp2_with (first | (go_at_call 31; (refine (CF.out _).mono ?_); rintro e' w1 ⟨rfl, hb⟩; have HB1 := Lib.hid (Mem.on HB.out hb); have HO1 := Lib.hid (own_on HO.out hb); clear hb) | (at_builtin; refine wp_tok (x := ⟨k, (L.drop b).take z, b⟩) elem_rtok w.heap.size rfl (.tmp 56) (.tmp 66) rfl rfl rfl HO1.out rfl (by omega) (by omega) HB1.out.size ?_; intro v' w2 ho2 hg2; have HO2 := Lib.hid ho2; have HB2 := Lib.hid ((al HB1.out (.cells #[.int .i64 ((k : Nat) : Int), .string (txt ((L.drop b).take z)), .int .i64 (b : Int)] 27)).grown hg2 (by have := HB1.out.size; simp; omega) (fun j hj => (HO1.out.lt j hj).1)); clear ho2 hg2))
        obtain ⟨A', c', rfl, _, _⟩ := toks_own HO2.out
        have ha3 := HA3.out
        go_roundw
        case rel => exact ⟨done ++ [⟨k, (L.drop b).take z, b⟩], A', n + 1, c', a3, rfl, rfl, by omega, by omega, HF3, HO2, HB2⟩
        case measure => simp [intOf]; omega
end Go.Proofs.YtgbaolafedkbdaaGreatDoor.Lx
