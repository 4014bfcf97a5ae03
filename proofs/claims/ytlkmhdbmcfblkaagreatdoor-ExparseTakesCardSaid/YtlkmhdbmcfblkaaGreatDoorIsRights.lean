import Derived.Test.YtlkmhdbmcfblkaaGreatDoorRows
import Derived.Test.YtlkmhdbmcfblkaaGreatDoorRights
import Derived.Test.YtlkmhdbmcfblkaaGreatDoorMemRows
import Derived.WalkKit
import Derived.WalkSpells
import Derived.WalkLawsBesides
import Derived.Lib.Hide
import Derived.Lib.IndexBytes
import Derived.Laws.Rows
import Derived.Laws.NewBlocks
import Derived.Test.YtlkmhdbmcfblkaaGreatDoorLexLongs
import Derived.BigQuiet
import Derived.Deep.QuietTactic
/- What value.Right answers, and the document's: is a value right? -/
namespace Go.Proofs.YtlkmhdbmcfblkaaGreatDoor.Right
open Go.RowKit Go.Proofs.YtlkmhdbmcfblkaaGreatDoor.Mem
set_option linter.unusedVariables false

theorem pl_take {s : ByteArray} {k : Nat} (h : k < s.size) : pl (s.data.toList.take (k + 1)) = (pl (s.data.toList.take k) && okB s[k]) := by
  rw [take_snoc s k h]; simp [pl, okB]
theorem pl_bad {s : ByteArray} {k : Nat} (h : k < s.size) (hb : okB s[k] = false) : pl s.data.toList = false := by
  unfold pl
  rw [List.all_eq_false]
  refine ⟨s[k], ?_, by rw [hb]; decide⟩
  have := drop_byte s k h
  exact List.mem_of_mem_drop (i := k) (by rw [this]; simp)
set_option maxHeartbeats 400000 in
theorem plain_any (s : ByteArray) (hs : s.size ≤ maxLen) (w : World) : Calls Tryz.prog 215 #[.string s] w fun e w' => e = .returned (.bool (pl s.data.toList)) ∧ w = w' := by
  unfold maxLen at hs
  go_enter Tryz.func215, Tryz.ntmps215
  go_wp2
  go_loop [6] (fun i => ∃ k : Nat, k ≤ s.size ∧ i = .int .i64 (k : Int) ∧ pl (s.data.toList.take k) = true) (fun i => s.size - (intOf i).toNat)
  case atStart => exact ⟨0, by omega, rfl, rfl⟩
  case round =>
    obtain ⟨k, hk, rfl, ha⟩ := hrel
    have HA := Lib.hid ha
    clear ha
    by_cases hlt : k < s.size
    · by_cases h1 : (s[k].toNat : Int) < 32
      · have HB := Lib.hid (pl_bad hlt (show okB s[k] = false by unfold okB; rw [decide_eq_true h1]; rfl))
        go_wp2
        go_ret
        exact ⟨rb HB.out.symm, rfl⟩
      · have t1 : decide ((s[k].toNat : Int) < 32) = false := decide_eq_false h1
        by_cases h2 : 126 < (s[k].toNat : Int)
        · have HB := Lib.hid (pl_bad hlt (show okB s[k] = false by unfold okB; rw [decide_eq_true h2, Bool.or_true]; rfl))
          go_wp2
          go_ret
          exact ⟨rb HB.out.symm, rfl⟩
        · have t2 : decide (126 < (s[k].toNat : Int)) = false := decide_eq_false h2
          have HS := Lib.hid (show pl (s.data.toList.take (k + 1)) = true by rw [pl_take hlt, HA.out]; unfold okB; rw [t1, t2]; rfl)
          go_wp2
          go_round
          case rel => exact ⟨k + 1, by omega, by go_num, HS.out⟩
          case measure => simp [intOf]; omega
    · have HY := Lib.hid (show pl s.data.toList = true by rw [← take_all s, show s.size = k by omega]; exact HA.out)
      go_wp2
      go_ret
      exact ⟨rb HY.out.symm, rfl⟩

set_option maxHeartbeats 400000 in
theorem refPlain_any (s : ByteArray) (hs : s.size ≤ maxLen) (w : World) : Calls Tryz.prog 141 #[.string s] w fun e w' => e = .returned (.bool (pl s.data.toList)) ∧ w = w' := by
  unfold maxLen at hs
  go_enter Tryz.func141, Tryz.ntmps141
  go_wp2
  go_loop [3] (fun i => ∃ k : Nat, k ≤ s.size ∧ i = .int .i64 (k : Int) ∧ pl (s.data.toList.take k) = true) (fun i => s.size - (intOf i).toNat)
  case atStart => exact ⟨0, by omega, rfl, rfl⟩
  case round =>
    obtain ⟨k, hk, rfl, ha⟩ := hrel
    have HA := Lib.hid ha
    clear ha
    by_cases hlt : k < s.size
    · by_cases h1 : (s[k].toNat : Int) < 32
      · have HB := Lib.hid (pl_bad hlt (show okB s[k] = false by unfold okB; rw [decide_eq_true h1]; rfl))
        go_wp2
        go_ret
        exact ⟨rb HB.out.symm, rfl⟩
      · have t1 : decide ((s[k].toNat : Int) < 32) = false := decide_eq_false h1
        by_cases h2 : 126 < (s[k].toNat : Int)
        · have HB := Lib.hid (pl_bad hlt (show okB s[k] = false by unfold okB; rw [decide_eq_true h2, Bool.or_true]; rfl))
          go_wp2
          go_ret
          exact ⟨rb HB.out.symm, rfl⟩
        · have t2 : decide (126 < (s[k].toNat : Int)) = false := decide_eq_false h2
          have HS := Lib.hid (show pl (s.data.toList.take (k + 1)) = true by rw [pl_take hlt, HA.out]; unfold okB; rw [t1, t2]; rfl)
          go_wp2
          go_round
          case rel => exact ⟨k + 1, by omega, by go_num, HS.out⟩
          case measure => simp [intOf]; omega
    · have HY := Lib.hid (show pl s.data.toList = true by rw [← take_all s, show s.size = k by omega]; exact HA.out)
      go_wp2
      go_ret
      exact ⟨rb HY.out.symm, rfl⟩

set_option maxHeartbeats 1000000 in
theorem right_any (k n : Int) (s : ByteArray) (w : World) (hs : s.size ≤ maxLen) :
    Calls Tryz.prog 204 #[.agg #[.int .i64 k, .int .i64 n, .string s]] w fun e w' => e = .returned (.bool (okV k n s.data.toList)) ∧ Below w.heap.size w w' := by
  by_cases h0 : k = 0
  · subst h0
    by_cases hn : n = 0
    · subst hn
      rcases empty_or s with rfl | ⟨he, t⟩
      · go_enter Tryz.func204, Tryz.ntmps204
        go_wp2
        go_ret
        exact ⟨rfl, al (Below.refl _ _) _⟩
      · have H := Lib.hid (show okV 0 0 s.data.toList = false by rw [ok_0, decide_eq_false he]; rfl)
        clear he
        go_enter Tryz.func204, Tryz.ntmps204
        go_wp2
        go_ret
        exact ⟨rb H.out.symm, al (Below.refl _ _) _⟩
    · have t := beq_no hn
      have H := Lib.hid (show okV 0 n s.data.toList = false by rw [ok_0, decide_eq_false hn]; rfl)
      clear hn
      go_enter Tryz.func204, Tryz.ntmps204
      go_wp2
      go_ret
      exact ⟨rb H.out.symm, al (Below.refl _ _) _⟩
  by_cases h1 : k = 1
  · subst h1
    rcases empty_or s with rfl | ⟨he, t⟩
    · go_enter Tryz.func204, Tryz.ntmps204
      go_wp2
      go_ret
      exact ⟨rfl, al (Below.refl _ _) _⟩
    · have H := Lib.hid (show okV 1 n s.data.toList = false by rw [ok_1, decide_eq_false he])
      clear he
      go_enter Tryz.func204, Tryz.ntmps204
      go_wp2
      go_ret
      exact ⟨rb H.out.symm, al (Below.refl _ _) _⟩
  by_cases h2 : k = 2
  · subst h2
    by_cases hn : n = 0
    · subst hn
      rcases empty_or s with rfl | ⟨he, t⟩
      · go_enter Tryz.func204, Tryz.ntmps204
        go_wp2
        go_ret
        exact ⟨rfl, al (Below.refl _ _) _⟩
      · have H := Lib.hid (show okV 2 0 s.data.toList = false by rw [ok_2, decide_eq_false he, Bool.and_false])
        clear he
        go_enter Tryz.func204, Tryz.ntmps204
        go_wp2
        go_ret
        exact ⟨rb H.out.symm, al (Below.refl _ _) _⟩
    by_cases hn1 : n = 1
    · subst hn1
      rcases empty_or s with rfl | ⟨he, t⟩
      · go_enter Tryz.func204, Tryz.ntmps204
        go_wp2
        go_ret
        exact ⟨rfl, al (Below.refl _ _) _⟩
      · have H := Lib.hid (show okV 2 1 s.data.toList = false by rw [ok_2, decide_eq_false he, Bool.and_false])
        clear he
        go_enter Tryz.func204, Tryz.ntmps204
        go_wp2
        go_ret
        exact ⟨rb H.out.symm, al (Below.refl _ _) _⟩
    · have t := beq_no hn
      have t1 := beq_no hn1
      have H := Lib.hid (show okV 2 n s.data.toList = false by rw [ok_2, decide_eq_false hn, decide_eq_false hn1]; rfl)
      clear hn hn1
      go_enter Tryz.func204, Tryz.ntmps204
      go_wp2
      go_ret
      exact ⟨rb H.out.symm, al (Below.refl _ _) _⟩
  by_cases h3 : k = 3
  · subst h3
    have hsz : s.data.toList.length = s.size := by rw [Array.length_toList]; rfl
    by_cases hn : n = 0
    · subst hn
      by_cases hl : s.size ≤ 32
      · have t : decide ((s.size : Int) ≤ 32) = true := decide_eq_true (by omega)
        have H := Lib.hid (show okV 3 0 s.data.toList = pl s.data.toList by rw [ok_3, hsz, decide_eq_true hl]; rfl)
        clear hl hsz
        go_enter Tryz.func204, Tryz.ntmps204
        go_wp2_with (go_at_call 215; (with_reducible refine (plain_any s hs _).mono ?_); rintro e w' ⟨rfl, rfl⟩)
        go_ret
        exact ⟨rb H.out.symm, al (Below.refl _ _) _⟩
      · have t : decide ((s.size : Int) ≤ 32) = false := decide_eq_false (by omega)
        have H := Lib.hid (show okV 3 0 s.data.toList = false by rw [ok_3, hsz, decide_eq_false hl, Bool.and_false]; rfl)
        clear hl hsz
        go_enter Tryz.func204, Tryz.ntmps204
        go_wp2
        go_ret
        exact ⟨rb H.out.symm, al (Below.refl _ _) _⟩
    · have t := beq_no hn
      have H := Lib.hid (show okV 3 n s.data.toList = false by rw [ok_3, decide_eq_false hn]; rfl)
      clear hn hsz
      go_enter Tryz.func204, Tryz.ntmps204
      go_wp2
      go_ret
      exact ⟨rb H.out.symm, al (Below.refl _ _) _⟩
  · have k0 := beq_no h0
    have k1 := beq_no h1
    have k2 := beq_no h2
    have k3 := beq_no h3
    have H := Lib.hid (ok_no (n := n) (l := s.data.toList) h0 h1 h2 h3)
    clear h0 h1 h2 h3
    go_enter Tryz.func204, Tryz.ntmps204
    go_wp2
    go_ret
    exact ⟨rb H.out.symm, al (Below.refl _ _) _⟩
end Go.Proofs.YtlkmhdbmcfblkaaGreatDoor.Right
/- Worlds that have grown but for one block: what stays. Dump-free. -/
namespace Go.Proofs.YtlkmhdbmcfblkaaGreatDoor.Mem
open Go.RowKit
set_option linter.unusedVariables false

theorem blk_lt {w : World} {g : Nat} {o : Obj} (h : w.heap[g]? = some o) : g < w.heap.size := by
  rcases Nat.lt_or_ge g w.heap.size with h2 | h2
  · exact h2
  · rw [Array.getElem?_eq_none h2] at h; cases h
theorem grown_refl (w : World) (r : Option Nat) : w.grownBy w r := ⟨rfl, rfl, rfl, Nat.le_refl _, fun _ _ _ => rfl⟩
theorem grown_trans {a b c : World} {r : Option Nat} (h : a.grownBy b r) (k : b.grownBy c r) : a.grownBy c r :=
  ⟨k.os.trans h.os, k.tape.trans h.tape, k.output.trans h.output, Nat.le_trans h.size k.size, fun j hj hr => (k.block j (Nat.lt_of_lt_of_le hj h.size) hr).trans (h.block j hj hr)⟩
theorem grown_below {w w' : World} {r : Option Nat} (h : Below w.heap.size w w') : w.grownBy w' r := ⟨h.os, h.tape, h.output, h.size, fun k hk _ => h.block k hk⟩
theorem grown_to {w w' : World} {g B : Nat} (h : w.grownBy w' (some g)) (hB : B ≤ g) (hg : g < w.heap.size) : Below B w w' :=
  ⟨h.os, h.tape, h.output, h.size, fun k hk => h.block k (by omega) (by intro e; injection e with e; omega)⟩
theorem grown_set {w : World} {g i : Nat} (x : Value) : w.grownBy (w.setCell ⟨g, i, none⟩ x) (some g) := by
  refine ⟨rfl, rfl, rfl, by simp [World.setCell], fun k hk hr => ?_⟩
  show (w.heap.modify g _)[k]? = _
  rw [Array.getElem?_modify, if_neg (fun e => hr (by rw [e]))]
theorem grown_far {w w1 : World} {r : Option Nat} {b i : Nat} {x : Value} (h : w.grownBy w1 r) (hb : w.heap.size ≤ b) : w.grownBy (w1.setCell ⟨b, i, none⟩ x) r := by
  refine ⟨h.os, h.tape, h.output, by simp [World.setCell]; exact h.size, fun k hk hr => ?_⟩
  show (w1.heap.modify b _)[k]? = _
  rw [Array.getElem?_modify, if_neg (by omega)]
  exact h.block k hk hr
end Go.Proofs.YtlkmhdbmcfblkaaGreatDoor.Mem
/- A block's cells; a block's type. For every layer (the same words as layer 6's, standing alone). -/
namespace Go.Proofs.YtlkmhdbmcfblkaaGreatDoor.Mem
open Go.RowKit
set_option linter.unusedVariables false

theorem blk_set {w : World} {g : Nat} {cs : Array Value} {t : TypeId} (h : w.heap[g]? = some (.cells cs t (0, 0))) (i : Nat) (v : Value) : (w.setCell ⟨g, i, none⟩ v).heap[g]? = some (.cells (cs.setIfInBounds i v) t (0, 0)) := by
  show (w.heap.modify g _)[g]? = _
  rw [Array.getElem?_modify, h]
  simp
/-- Block B holds these cells, of type t. -/
def Cel (W : World) (B : Nat) (t : TypeId) (cs : Array Value) : Prop := W.heap[B]? = some (.cells cs t (0, 0))
theorem Cel.new (W : World) (t : TypeId) (cs : Array Value) {B : Nat} (hB : W.heap.size = B) : Cel (W.alloc (.cells cs t)) B t cs := by subst hB; exact heap_alloc_new W _
theorem Cel.lt {W : World} {B : Nat} {t : TypeId} {cs : Array Value} (h : Cel W B t cs) : B < W.heap.size := blk_lt h
theorem Cel.alloc {W : World} {B : Nat} {t : TypeId} {cs : Array Value} (h : Cel W B t cs) (o : Obj) : Cel (W.alloc o) B t cs := (Below.heap_alloc W o B (blk_lt h)).trans h
theorem Cel.below {W W' : World} {B : Nat} {t : TypeId} {cs : Array Value} (h : Cel W B t cs) (hb : Below W.heap.size W W') : Cel W' B t cs := (hb.block B (blk_lt h)).trans h
theorem Cel.at_ {W : World} {B : Nat} {t : TypeId} {cs : Array Value} (h : Cel W B t cs) (i : Nat) : W.cell? ⟨B, i, none⟩ = cs[i]? := cell_of_row W B i cs t _ h
theorem Cel.open_ {W : World} {B : Nat} {t : TypeId} {cs : Array Value} (h : Cel W B t cs) (i : Nat) : W.frozen? ⟨B, i, none⟩ = false := by
  have h' : W.heap[B]? = some (.cells cs t (0, 0)) := h
  simp only [World.frozen?, h']
  simp
theorem Cel.set {W : World} {B : Nat} {t : TypeId} {cs : Array Value} (h : Cel W B t cs) (i : Nat) (v : Value) : Cel (W.setCell ⟨B, i, none⟩ v) B t (cs.setIfInBounds i v) := blk_set h i v
theorem Cel.other {W : World} {B b : Nat} {t : TypeId} {cs : Array Value} (h : Cel W B t cs) (hb : b ≠ B) (i : Nat) (v : Value) : Cel (W.setCell ⟨b, i, none⟩ v) B t cs := by
  show (W.heap.modify b _)[B]? = _
  rw [Array.getElem?_modify, if_neg hb]; exact h
/-- A slice's block has elements of type t. -/
def Tyd (w : World) (A : Option Addr) (t : TypeId) : Prop := ∀ b o, A = some ⟨b, o, none⟩ → ∃ cs fr, w.heap[b]? = some (.cells cs t fr)
theorem Tyd.below {w w' : World} {A : Option Addr} {t : TypeId} (h : Tyd w A t) (hb : Below w.heap.size w w') : Tyd w' A t := fun b o e => by
  obtain ⟨cs, fr, hc⟩ := h b o e
  exact ⟨cs, fr, (hb.block b (blk_lt hc)).trans hc⟩
theorem Tyd.none_ (w : World) (t : TypeId) : Tyd w none t := fun b o e => by cases e
end Go.Proofs.YtlkmhdbmcfblkaaGreatDoor.Mem
/- Is one part of a tree right: the program's way. -/
namespace Go.Proofs.YtlkmhdbmcfblkaaGreatDoor.Ep
open Go.RowKit Go.Proofs.YtlkmhdbmcfblkaaGreatDoor.Mem Go.Proofs.YtlkmhdbmcfblkaaGreatDoor.Right Go.Proofs.YtlkmhdbmcfblkaaGreatDoor.Lx
set_option linter.unusedVariables false

/-- A whole text is a name. -/
theorem name_whole (l : List UInt8) : decide (lng l = (1, l.length)) = decide (kindOf l = 1) := by
  by_cases h : kindOf l = 1
  · rw [decide_eq_true h, decide_eq_true (kind_lng h (by omega))]
  · rw [decide_eq_false h]
    refine decide_eq_false fun g => h ?_
    match l with
    | [] => simp [lng] at g
    | c :: t =>
      rw [← kindR_is, kindR_cons]
      by_cases h1 : small c = true
      · simp only [lng, if_pos h1] at g
        injection g with _ g
        have hr := run_le inName t
        rw [List.length_cons] at g
        rw [if_pos ⟨by rw [List.length_cons]; omega, h1, run_whole.1 (by omega)⟩]
      · exfalso
        simp only [lng, if_neg h1] at g
        have hn : ∀ k n : Nat, 2 ≤ k → orN k n ≠ (1, (c :: t).length) := fun k n hk e => by
          unfold orN at e
          split at e
          · injection e with e _; omega
          · injection e with e _; omega
        repeat' split at g
        all_goals first | (injection g with g _; omega) | exact hn _ _ (by omega) g
theorem isToken_any (k : Nat) (s : ByteArray) (b : Bool) (hs : s.size ≤ 1000000) (hb : decide (lng s.data.toList = (k, s.size)) = b) (w : World) (h : Signs w) :
    Calls Tryz.prog 56 #[.int .i64 (k : Int), .string s] w fun e w' => e = .returned (.bool b) ∧ w = w' := by
  obtain ⟨k', n, hl⟩ : ∃ k' n, lng s.data.toList = (k', n) := ⟨_, _, rfl⟩
  rw [hl] at hb
  have HH := Lib.hid (show ∀ W, Signs W → Calls Tryz.prog 54 #[.string s] W fun e w' => e = .returned (.tuple #[.int .i64 (k' : Int), .int .i64 (n : Int)]) ∧ W = w' from fun W hW => by
    have := longest_any s hs W hW
    rw [hl] at this
    exact this)
  have HS := Lib.hid h
  clear h hl
  by_cases hk : k' = k
  · subst hk
    have tk : ((k' : Int) == (k' : Int)) = true := by simp
    have H := Lib.hid (show ((n : Int) == (s.size : Int)) = b by
      rw [← hb]
      by_cases e : n = s.size
      · subst e; simp
      · rw [beq_no (by omega), eq_comm]
        exact decide_eq_false fun g => e (by injection g))
    clear hb
    go_enter Tryz.func56, Tryz.ntmps56
    go_wp2_with (go_at_call 54; refine (HH.out _ HS.out).mono ?_; rintro e w' ⟨rfl, rfl⟩)
    go_ret
    exact ⟨rb H.out, rfl⟩
  · have tk : ((k' : Int) == (k : Int)) = false := beq_no (by omega)
    have H := Lib.hid (show false = b by rw [← hb, eq_comm]; exact decide_eq_false fun g => hk (by injection g))
    clear hb hk
    go_enter Tryz.func56, Tryz.ntmps56
    go_wp2_with (go_at_call 54; refine (HH.out _ HS.out).mono ?_; rintro e w' ⟨rfl, rfl⟩)
    go_ret
    exact ⟨rb H.out, rfl⟩
theorem isName_any (s : ByteArray) (hs : s.size ≤ 1000000) (w : World) (h : Signs w) :
    Calls Tryz.prog 167 #[.string s] w fun e w' => e = .returned (.bool (decide (kindOf s.data.toList = 1))) ∧ w = w' := by
  have HH := Lib.hid (show Calls Tryz.prog 56 #[.int .i64 1, .string s] w fun e w' => e = .returned (.bool (decide (kindOf s.data.toList = 1))) ∧ w = w' from isToken_any 1 s (decide (kindOf s.data.toList = 1)) hs (by rw [← name_whole, Array.length_toList]; rfl) w h)
  clear h
  go_enter Tryz.func167, Tryz.ntmps167
  go_wp2_with (go_at_call 56; (with_reducible refine HH.out.mono ?_); rintro e w' ⟨rfl, rfl⟩)
  go_ret
  exact ⟨rfl, rfl⟩
/-- Neither below the least nor above the most. -/
def inB (n a b : Int) : Bool := decide (a ≤ n) && decide (n ≤ b)
theorem within_any (n a b : Int) (w : World) : Calls Tryz.prog 187 #[.int .i64 n, .int .i64 a, .int .i64 b] w fun e w' => e = .returned (.bool (inB n a b)) ∧ w = w' := by
  by_cases h : a ≤ n
  · have t : decide (a ≤ n) = true := decide_eq_true h
    have H := Lib.hid (show inB n a b = decide (n ≤ b) by unfold inB; rw [t, Bool.true_and])
    clear h
    go_enter Tryz.func187, Tryz.ntmps187
    go_wp2
    go_ret
    exact ⟨rb H.out.symm, rfl⟩
  · have t : decide (a ≤ n) = false := decide_eq_false h
    have H := Lib.hid (show inB n a b = false by unfold inB; rw [t, Bool.false_and])
    clear h
    go_enter Tryz.func187, Tryz.ntmps187
    go_wp2
    go_ret
    exact ⟨rb H.out.symm, rfl⟩
def bCoal : ByteArray := ⟨#[99, 111, 97, 108, 101, 115, 99, 101]⟩
def bLen : ByteArray := ⟨#[108, 101, 110, 103, 116, 104]⟩
def bAbs : ByteArray := ⟨#[97, 98, 115]⟩
/-- Is there a call of that name, of so many? -/
def takesB (nm : List UInt8) (n : Nat) : Bool := decide ((nm = nCoal ∧ 1 ≤ n ∧ n ≤ 4) ∨ ((nm = nLen ∨ nm = nAbs) ∧ n = 1))
theorem txt_eq {l m : List UInt8} : ((txt l).toList == m) = decide (l = m) := by
  rw [Lib.toList_data, txt_back]
  by_cases h : l = m
  · subst h; simp
  · rw [decide_eq_false h, beq_eq_false_iff_ne]
    exact h
set_option maxHeartbeats 1000000 in
theorem takes_any (nm : List UInt8) (n : Nat) (w : World) : Calls Tryz.prog 188 #[.string (txt nm), .int .i64 (n : Int)] w fun e w' => e = .returned (.bool (takesB nm n)) ∧ w = w' := by
  have q1 : ((txt nm).toList == [99, 111, 97, 108, 101, 115, 99, 101]) = decide (nm = nCoal) := txt_eq
  have q2 : ((txt nm).toList == [108, 101, 110, 103, 116, 104]) = decide (nm = nLen) := txt_eq
  have q3 : ((txt nm).toList == [97, 98, 115]) = decide (nm = nAbs) := txt_eq
  obtain ⟨b, hb⟩ : ∃ b, txt nm = b := ⟨_, rfl⟩
  rw [hb] at q1 q2 q3 ⊢
  clear hb
  by_cases h1 : nm = nCoal
  · rw [decide_eq_true h1] at q1
    have H := Lib.hid (show inB (n : Int) 1 4 = takesB nm n by
      subst h1
      unfold takesB inB
      rw [← Bool.decide_and, decide_eq_decide]
      constructor
      · rintro ⟨a, b⟩; exact .inl ⟨rfl, by omega, by omega⟩
      · rintro (⟨_, a, b⟩ | ⟨a, _⟩)
        · omega
        · exact absurd a (by decide))
    clear h1 q2 q3
    go_enter Tryz.func188, Tryz.ntmps188
    go_wp2_with (go_at_call 187; (with_reducible refine (within_any _ _ _ _).mono ?_); rintro e w' ⟨rfl, rfl⟩)
    go_ret
    exact ⟨rb H.out, rfl⟩
  rw [decide_eq_false h1] at q1
  have H1 : ∀ b : Bool, decide (nm = nLen ∨ nm = nAbs) = true → ((n : Int) == 1) = takesB nm n := fun _ h => by
    unfold takesB
    rw [decide_eq_true_eq] at h
    by_cases e : n = 1
    · subst e; rw [decide_eq_true (.inr ⟨h, rfl⟩)]; rfl
    · rw [beq_no (by omega), eq_comm]
      exact decide_eq_false fun g => by
        rcases g with g | g
        · exact h1 g.1
        · exact e g.2
  by_cases h2 : nm = nLen
  · rw [decide_eq_true h2] at q2
    have H := Lib.hid (H1 true (decide_eq_true (.inl h2)))
    clear h1 h2 H1 q3
    go_enter Tryz.func188, Tryz.ntmps188
    go_wp2
    go_ret
    exact ⟨rb H.out, rfl⟩
  rw [decide_eq_false h2] at q2
  by_cases h3 : nm = nAbs
  · rw [decide_eq_true h3] at q3
    have H := Lib.hid (H1 true (decide_eq_true (.inr h3)))
    clear h1 h2 h3 H1
    go_enter Tryz.func188, Tryz.ntmps188
    go_wp2
    go_ret
    exact ⟨rb H.out, rfl⟩
  rw [decide_eq_false h3] at q3
  have H := Lib.hid (show false = takesB nm n by
    unfold takesB
    rw [eq_comm]
    exact decide_eq_false fun g => by
      rcases g with g | g
      · exact h1 g.1
      · exact g.1.elim h2 h3)
  clear h1 h2 h3 H1
  go_enter Tryz.func188, Tryz.ntmps188
  go_wp2
  go_ret
  exact ⟨rb H.out, rfl⟩
/-- May a value stand as it is? -/
def litB (k n : Int) (s : List UInt8) : Bool := Val.okV k n s && decide (¬ (k = 1 ∧ n < 0))
set_option maxHeartbeats 1000000 in
theorem isLit_any (k n : Int) (s : List UInt8) (w : World) (hs : s.length ≤ maxLen) :
    Calls Tryz.prog 186 #[.agg #[.int .i64 k, .int .i64 n, .string (txt s)]] w fun e w' => e = .returned (.bool (litB k n s)) ∧ Below w.heap.size w w' := by
  have HR := Lib.hid (show ∀ W, Calls Tryz.prog 204 #[.agg #[.int .i64 k, .int .i64 n, .string (txt s)]] W fun e w' => e = .returned (.bool (Val.okV k n s)) ∧ Below W.heap.size W w' from fun W => right_any k n (txt s) W hs)
  have HB0 := Lib.hid (al (Below.refl w.heap.size w) (.cells #[.int .i64 k, .int .i64 n, .string (txt s)] 29))
  have hc := (Cel.new w 29 #[.int .i64 k, .int .i64 n, .string (txt s)] rfl)
  have HC := Lib.hid hc
  cases hv : Val.okV k n s with
  | false =>
    rw [hv] at HR
    have H := Lib.hid (show litB k n s = false by unfold litB; rw [hv]; rfl)
    clear hc hv
    go_enter Tryz.func186, Tryz.ntmps186
    go_wp2_with (go_at_call 204; (with_reducible refine (HR.out _).mono ?_); rintro e w2 ⟨rfl, hb2⟩; have HB2 := Lib.hid hb2; have d0 := (HC.out.below hb2).at_ 0; have d1 := (HC.out.below hb2).at_ 1; clear hb2)
    go_ret
    exact ⟨rb H.out.symm, Mem.on HB0.out HB2.out⟩
  | true =>
    rw [hv] at HR
    by_cases hk : k = 1
    · subst hk
      have H := Lib.hid (show litB 1 n s = decide (0 ≤ n) by unfold litB; rw [hv, Bool.true_and, decide_eq_decide]; omega)
      have tk : ((1 : Int) != 1) = false := by simp
      clear hc hv
      go_enter Tryz.func186, Tryz.ntmps186
      go_wp2_with (go_at_call 204; (with_reducible refine (HR.out _).mono ?_); rintro e w2 ⟨rfl, hb2⟩; have HB2 := Lib.hid hb2; have d0 := (HC.out.below hb2).at_ 0; have d1 := (HC.out.below hb2).at_ 1; clear hb2)
      go_ret
      exact ⟨rb H.out.symm, Mem.on HB0.out HB2.out⟩
    · have H := Lib.hid (show litB k n s = true by unfold litB; rw [hv, Bool.true_and]; exact decide_eq_true fun g => hk g.1)
      have tk : (k != 1) = true := bne_yes hk
      clear hc hv
      go_enter Tryz.func186, Tryz.ntmps186
      go_wp2_with (go_at_call 204; (with_reducible refine (HR.out _).mono ?_); rintro e w2 ⟨rfl, hb2⟩; have HB2 := Lib.hid hb2; have d0 := (HC.out.below hb2).at_ 0; have d1 := (HC.out.below hb2).at_ 1; clear hb2)
      go_ret
      exact ⟨rb H.out.symm, Mem.on HB0.out HB2.out⟩

end Go.Proofs.YtlkmhdbmcfblkaaGreatDoor.Ep
