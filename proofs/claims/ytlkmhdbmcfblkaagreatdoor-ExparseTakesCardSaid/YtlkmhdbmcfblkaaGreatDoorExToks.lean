import Derived.Test.YtlkmhdbmcfblkaaGreatDoorIsRights
import Derived.Test.YtlkmhdbmcfblkaaGreatDoorExTexts
import Derived.Test.YtlkmhdbmcfblkaaGreatDoorRecs
import Derived.Test.YtlkmhdbmcfblkaaGreatDoorValReads
import Derived.Test.YtlkmhdbmcfblkaaGreatDoorExMems
/- Tokens as the program's parser has them: whether one is right, and the value that a right one says. -/
namespace Go.Proofs.YtlkmhdbmcfblkaaGreatDoor.Ep
open Go.RowKit Go.Proofs.YtlkmhdbmcfblkaaGreatDoor.Mem Go.Proofs.YtlkmhdbmcfblkaaGreatDoor.Right Go.Proofs.YtlkmhdbmcfblkaaGreatDoor.Lx
set_option linter.unusedVariables false

/-- A whole text is a token of a kind. -/
theorem lng_zero (s : List UInt8) (n : Nat) (h : lng s = (0, n)) : n = 0 ∧ s ≠ [] := by
  refine ⟨?_, fun e => by rw [e] at h; cases h⟩
  have ho : ∀ k n m : Nat, k ≠ 0 → orN k n = (0, m) → m = 0 := fun k n m hk e => by
    unfold orN at e
    split at e
    · injection e with _ e; exact e.symm
    · injection e with e _; omega
  have hp : ∀ k a m : Nat, k ≠ 0 → ((k, a) : Nat × Nat) = (0, m) → m = 0 := fun k a m hk e => by
    injection e with e _; omega
  cases s with
  | nil => cases h
  | cons c t =>
    simp only [lng] at h
    repeat' split at h
    all_goals first
      | exact hp _ _ _ (by decide) h
      | exact ho _ _ _ (by decide) h
theorem kind_whole (s : List UInt8) (k : Nat) (hk : k ≠ 0) : lng s = (k, s.length) ↔ kindOf s = k := by
  constructor
  · intro h
    by_cases hs : s = []
    · subst hs
      have h' : ((7, 0) : Nat × Nat) = (k, 0) := h
      injection h' with h' _
    · have hb : bad s = false := by
        unfold bad
        rw [h]
        simp only [List.drop_length]
        rw [decide_eq_false hk]
        unfold Lx.on free
        simp
      have hn : next s = some (k, s.length) := by rw [next_bad hs, hb, h]; rfl
      unfold kindOf
      rw [if_neg hs, hn]
      simp
  · intro h
    exact kind_lng h (by omega)
/-- Is a token right? -/
def rightTo (x : To) : Bool := decide (0 ≤ x.at_) && decide (kindOf x.text ≠ 0 ∧ x.kind = (kindOf x.text : Int))
theorem isToken_int (k : Int) (s : ByteArray) (hs : s.size ≤ 1000000) (w : World) (h : Signs w) :
    Calls Tryz.prog 56 #[.int .i64 k, .string s] w fun e w' => e = .returned (.bool (decide (kindOf s.data.toList ≠ 0 ∧ k = (kindOf s.data.toList : Int)))) ∧ w = w' := by
  obtain ⟨k', n, hl⟩ : ∃ k' n, lng s.data.toList = (k', n) := ⟨_, _, rfl⟩
  have HH := Lib.hid (show ∀ W, Signs W → Calls Tryz.prog 54 #[.string s] W fun e w' => e = .returned (.tuple #[.int .i64 (k' : Int), .int .i64 (n : Int)]) ∧ W = w' from fun W hW => by
    have := longest_any s hs W hW
    rw [hl] at this
    exact this)
  have HS := Lib.hid h
  have hlen : s.data.toList.length = s.size := by rw [Array.length_toList]; rfl
  by_cases hk : (k' : Int) = k
  · subst hk
    have tk : ((k' : Int) == (k' : Int)) = true := by simp
    have H := Lib.hid (show ((n : Int) == (s.size : Int)) = decide (kindOf s.data.toList ≠ 0 ∧ (k' : Int) = (kindOf s.data.toList : Int)) by
      by_cases h0 : k' = 0
      · subst h0
        obtain ⟨hn, hne⟩ := lng_zero _ _ hl
        have : 0 < s.data.toList.length := List.length_pos_iff.2 hne
        rw [beq_no (by omega), eq_comm]
        exact decide_eq_false fun g => g.1 (by have := g.2; omega)
      by_cases e : n = s.size
      · subst e
        rw [← hlen] at hl
        have := (kind_whole _ _ h0).1 hl
        rw [this]
        simpa using h0
      · rw [beq_no (by omega), eq_comm]
        refine decide_eq_false fun g => e ?_
        have h1 : kindOf s.data.toList = k' := by have := g.2; omega
        have h2 := (kind_whole _ _ h0).2 h1
        rw [hl] at h2
        injection h2 with _ h2)
    clear h hl
    go_enter Tryz.func56, Tryz.ntmps56
    go_wp2_with (go_at_call 54; refine (HH.out _ HS.out).mono ?_; rintro e w' ⟨rfl, rfl⟩)
    go_ret
    exact ⟨rb H.out, rfl⟩
  · have tk : ((k' : Int) == k) = false := beq_no hk
    have H := Lib.hid (show false = decide (kindOf s.data.toList ≠ 0 ∧ k = (kindOf s.data.toList : Int)) by
      rw [eq_comm]
      refine decide_eq_false fun g => hk ?_
      have h2 := (kind_whole _ _ g.1).2 rfl
      rw [hl] at h2
      injection h2 with h2 _
      rw [h2, g.2])
    clear h hl hk
    go_enter Tryz.func56, Tryz.ntmps56
    go_wp2_with (go_at_call 54; refine (HH.out _ HS.out).mono ?_; rintro e w' ⟨rfl, rfl⟩)
    go_ret
    exact ⟨rb H.out, rfl⟩
/-- A token by value. -/
abbrev toV (x : To) : Value := .agg #[.int .i64 x.kind, .string (Ep.txt x.text), .int .i64 x.at_]
theorem lexRight_any (x : To) (hx : x.text.length ≤ 1000000) (w : World) (h : Signs w) :
    Calls Tryz.prog 36 #[toV x] w fun e w' => e = .returned (.bool (rightTo x)) ∧ Below w.heap.size w w' := by
  obtain ⟨k, l, a⟩ := x
  have HB := Lib.hid (Below.refl w.heap.size w)
  have HI := Lib.hid (show ∀ W, Below w.heap.size w W → Calls Tryz.prog 56 #[.int .i64 k, .string (Ep.txt l)] W fun e w' => e = .returned (.bool (decide (kindOf l ≠ 0 ∧ k = (kindOf l : Int)))) ∧ W = w' from fun W hW => isToken_int k (Ep.txt l) hx W (h.below hW h.lt))
  clear h
  unfold rightTo
  by_cases ha : 0 ≤ a
  · have ta : decide (0 ≤ a) = true := decide_eq_true ha
    have tb : decide (a ≥ 0) = true := decide_eq_true ha
    go_enter Tryz.func36, Tryz.ntmps36
    go_wp2_with (go_at_call 56; refine (HI.out _ (al HB.out _)).mono ?_; rintro e w' ⟨rfl, rfl⟩)
    go_ret
    exact ⟨rb (by rw [ta]; simp), al HB.out _⟩
  · have ta : decide (0 ≤ a) = false := decide_eq_false ha
    have tb : decide (a ≥ 0) = false := decide_eq_false ha
    go_enter Tryz.func36, Tryz.ntmps36
    go_wp2_with fail
    go_ret
    exact ⟨rfl, al HB.out _⟩
/-- Kind and text. -/
def toTt (x : To) : Tt := (x.kind.toNat, x.text)
theorem right_kind {x : To} (h : rightTo x = true) : 0 ≤ x.at_ ∧ kindOf x.text ≠ 0 ∧ x.kind = (kindOf x.text : Int) := by
  unfold rightTo at h
  rw [Bool.and_eq_true, decide_eq_true_eq, decide_eq_true_eq] at h
  exact ⟨h.1, h.2.1, h.2.2⟩
/-- Which tokens say a value. -/
theorem val_cases {x : To} (h : rightTo x = true) (hv : isVal (toTt x) = true) : x.kind = 3 ∨ x.kind = 4 ∨ (x.kind = 2 ∧ (x.text = Val.wTrue ∨ x.text = Val.wFalse ∨ x.text = Val.wNull)) := by
  obtain ⟨_, h0, hk⟩ := right_kind h
  unfold isVal toTt at hv
  simp only [Bool.or_eq_true, beq_iff_eq] at hv
  rcases hv with (((hv | hv) | hv) | hv) | hv
  · exact .inl (by omega)
  · exact .inr (.inl (by omega))
  · refine .inr (.inr ⟨?_, .inl hv⟩)
    rw [hk, hv]; decide
  · refine .inr (.inr ⟨?_, .inr (.inl hv)⟩)
    rw [hk, hv]; decide
  · refine .inr (.inr ⟨?_, .inr (.inr hv)⟩)
    rw [hk, hv]; decide
theorem hasValue_any (x : To) (h : rightTo x = true) (hv : isVal (toTt x) = true) (w : World) :
    Calls Tryz.prog 223 #[toV x] w fun e w' => e = .returned (.bool true) ∧ Below w.heap.size w w' := by
  have hc := val_cases h hv
  obtain ⟨k, l, a⟩ := x
  have HB := Lib.hid (Below.refl w.heap.size w)
  clear h hv
  rcases hc with hc | hc | ⟨hc, ht⟩
  · obtain rfl : k = 3 := hc
    go_enter Tryz.func223, Tryz.ntmps223
    go_wp2
    go_ret
    exact ⟨rfl, al HB.out _⟩
  · obtain rfl : k = 4 := hc
    go_enter Tryz.func223, Tryz.ntmps223
    go_wp2
    go_ret
    exact ⟨rfl, al HB.out _⟩
  · obtain rfl : k = 2 := hc
    rcases ht with ht | ht | ht
    · obtain rfl := ht
      show Calls Tryz.prog 223 #[.agg #[.int .i64 2, .string ⟨#[84, 82, 85, 69]⟩, .int .i64 a]] w _
      go_enter Tryz.func223, Tryz.ntmps223
      go_wp2
      go_ret
      exact ⟨rfl, al HB.out _⟩
    · obtain rfl := ht
      show Calls Tryz.prog 223 #[.agg #[.int .i64 2, .string ⟨#[70, 65, 76, 83, 69]⟩, .int .i64 a]] w _
      go_enter Tryz.func223, Tryz.ntmps223
      go_wp2
      go_ret
      exact ⟨rfl, al HB.out _⟩
    · obtain rfl := ht
      show Calls Tryz.prog 223 #[.agg #[.int .i64 2, .string ⟨#[78, 85, 76, 76]⟩, .int .i64 a]] w _
      go_enter Tryz.func223, Tryz.ntmps223
      go_wp2
      go_ret
      exact ⟨rfl, al HB.out _⟩
theorem lexValue_any (x : To) (h : rightTo x = true) (hv : isVal (toTt x) = true) (hx : x.text.length ≤ 1000000) (w : World) (hs : Signs w) (m : Int) (hm : w.cell? ⟨2, 0, none⟩ = some (.int .i64 m)) :
    Calls Tryz.prog 213 #[toV x] w fun e w' => e = .returned (Val.rd x.text).val ∧ Below w.heap.size w w' := by
  have HB := Lib.hid (Below.refl w.heap.size w)
  have HR := Lib.hid (show ∀ W, Below w.heap.size w W → Calls Tryz.prog 36 #[toV x] W fun e w' => e = .returned (.bool true) ∧ Below W.heap.size W w' from fun W hW => by
    have := lexRight_any x hx W (hs.below hW hs.lt)
    rw [h] at this
    exact this)
  have HH := Lib.hid (show ∀ W, Calls Tryz.prog 223 #[toV x] W fun e w' => e = .returned (.bool true) ∧ Below W.heap.size W w' from fun W => hasValue_any x h hv W)
  have hml := cell_lt hm
  obtain ⟨⟨rk, rn, rs, re⟩, hrd⟩ : ∃ g, Val.rd x.text = g := ⟨_, rfl⟩
  have HV := Lib.hid (show ∀ W, Below w.heap.size w W → Calls Tryz.prog 224 #[.string (Ep.txt x.text)] W fun e w' => e = .returned (.tuple #[.agg #[.int .i64 rk, .int .i64 rn, .string (Ep.txt rs)], .int .i64 re]) ∧ Below W.heap.size W w' from fun W hW => by
    have := Val.read_any (Ep.txt x.text) m W (by show x.text.length < _; omega) ((hW.cell (p := ⟨2, 0, none⟩) hml).trans hm)
    rw [show (Ep.txt x.text).data.toList = x.text from rfl, hrd] at this
    exact this)
  rw [hrd]
  clear h hv hs hm hml hrd
  obtain ⟨k, l, a⟩ := x
  have HW0 := Lib.hid (al (al HB.out (.cells #[.int .i64 k, .string (Ep.txt l), .int .i64 a] 26)) (.cells #[.int .i64 0, .int .i64 0, .string ByteArray.empty] 29))
  have HX := Lib.hid (show Cel ((w.alloc (.cells #[.int .i64 k, .string (Ep.txt l), .int .i64 a] 26)).alloc (.cells #[.int .i64 0, .int .i64 0, .string ByteArray.empty] 29)) w.heap.size 26 #[.int .i64 k, .string (Ep.txt l), .int .i64 a] ∧ Cel ((w.alloc (.cells #[.int .i64 k, .string (Ep.txt l), .int .i64 a] 26)).alloc (.cells #[.int .i64 0, .int .i64 0, .string ByteArray.empty] 29)) (w.heap.size + 1) 29 #[.int .i64 0, .int .i64 0, .string ByteArray.empty] from ⟨(Cel.new w _ _ rfl).alloc _, Cel.new _ _ _ (by simp)⟩)
  go_enter Tryz.func213, Tryz.ntmps213
  go_wp2_with (first
    | (go_at_call 36; (refine (HR.out _ HW0.out).mono ?_); rintro e' w1 ⟨rfl, hb1⟩; have HB1 := Lib.hid hb1; have HX1 := Lib.hid (And.intro (HX.out.1.below hb1) (HX.out.2.below hb1)); have q0 := HX1.out.1.at_ 0; have q1 := HX1.out.1.at_ 1; have q2 := HX1.out.1.at_ 2; clear hb1)
    | (go_at_call 223; (refine (HH.out _).mono ?_); rintro e' w2 ⟨rfl, hb2⟩; have HB2 := Lib.hid (Mem.on (Mem.on HW0.out HB1.out) hb2); have HX2 := Lib.hid (And.intro (HX1.out.1.below hb2) (HX1.out.2.below hb2)); have r0 := HX2.out.1.at_ 0; have r1 := HX2.out.1.at_ 1; have r2 := HX2.out.1.at_ 2; clear hb2)
    | (go_at_call 224; (refine (HV.out _ HB2.out).mono ?_); rintro e' w3 ⟨rfl, hb3⟩; have HB3 := Lib.hid (Mem.on HB2.out hb3); have HX3 := Lib.hid (HX2.out.2.below hb3); have s0 := HX3.out.at_ 0; have s1 := HX3.out.at_ 1; have s2 := HX3.out.at_ 2; have f0 := HX3.out.open_ 0; have f1 := HX3.out.open_ 1; have f2 := HX3.out.open_ 2; clear hb3))
  (try simp only [Exit.inBlock, Exit.then])
  refine bodyPost_ret (v := .tuple #[.agg #[.int .i64 rk, .int .i64 rn, .string (Ep.txt rs)], .int .i64 re]) ?_ rfl ?_
  · rw [results_cell_tmp rfl]
    go_simp
  refine ⟨rfl, ?_⟩
  have h3 := HB3.out
  refine ((h3.setCell (p := ⟨w.heap.size + 1, 0, none⟩) (Nat.le_succ _) _).setCell (p := ⟨w.heap.size + 1, 1, none⟩) (Nat.le_succ _) _).setCell (p := ⟨w.heap.size + 1, 2, none⟩) (Nat.le_succ _) _
end Go.Proofs.YtlkmhdbmcfblkaaGreatDoor.Ep
/- The trees of a parser that lets go what is too high, and knows at the end that something was: where nothing is too high they are the trees. -/
namespace Go.Proofs.YtlkmhdbmcfblkaaGreatDoor.Ep
set_option linter.unusedVariables false

/-- No tree. -/
def exZ : Ex := .mk 0 0 0 0 [] [] []
theorem hgt_exZ : hgt exZ = 1 := by unfold exZ; rw [hgt_mk]; rfl
/-- Let go, if it is too high. -/
def lim (e : Ex) : Ex := if 8 < hgt e then exZ else e
mutual
def cutE : Ex → Ex
  | .mk k o vk vn vs nm kids => lim (.mk k o vk vn vs nm (cutL kids))
def cutL : List Ex → List Ex
  | [] => []
  | x :: l => cutE x :: cutL l
end
theorem cutL_map : ∀ l : List Ex, cutL l = l.map cutE
  | [] => by rw [cutL]; rfl
  | x :: l => by rw [cutL, cutL_map l]; rfl
theorem cutE_mk (k o vk vn : Int) (vs nm : List UInt8) (kids : List Ex) : cutE (.mk k o vk vn vs nm kids) = lim (.mk k o vk vn vs nm (kids.map cutE)) := by rw [cutE, cutL_map]
theorem lim_low {e : Ex} (h : hgt e ≤ 8) : lim e = e := by unfold lim; rw [if_neg (by omega)]
/-- Is it too high? -/
def high (e : Ex) : Bool := decide (8 < hgt e)
theorem cutE_low : ∀ e : Ex, hgt e ≤ 8 → cutE e = e := by
  refine Ex.byKids fun k o vk vn vs nm kids ih h => ?_
  rw [hgt_mk] at h
  have hk : kids.map cutE = kids := by
    have : ∀ x ∈ kids, cutE x = x := fun x hx => ih x hx (by have := hgtL_mem hx; omega)
    rw [List.map_congr_left this, List.map_id']
  rw [cutE_mk, hk, lim_low (by rw [hgt_mk]; omega)]
theorem cutE_is {e : Ex} (h : high e = false) : cutE e = e := cutE_low e (by unfold high at h; simp at h; omega)
theorem hgt_lim (e : Ex) : hgt (lim e) ≤ 8 := by
  unfold lim
  split
  · rw [hgt_exZ]; omega
  · omega
theorem hgt_cut (e : Ex) : hgt (cutE e) ≤ 8 := by
  obtain ⟨k, o, vk, vn, vs, nm, kids⟩ := e
  rw [cutE_mk]
  exact hgt_lim _
theorem hgtL_le {l : List Ex} {n : Nat} (h : ∀ x ∈ l, hgt x ≤ n) : hgtL l ≤ n := by
  induction l with
  | nil => rw [hgtL]; omega
  | cons x l ih =>
    rw [hgtL_cons]
    have h1 := h x (by simp)
    have h2 := ih fun y hy => h y (List.mem_cons_of_mem _ hy)
    omega
theorem hgtL_cut (l : List Ex) : hgtL (l.map cutE) ≤ 8 := hgtL_le fun x hx => by
  obtain ⟨y, _, rfl⟩ := List.mem_map.1 hx
  exact hgt_cut y
theorem hgtL_any {l : List Ex} (h : l.any high = false) : l.map cutE = l ∧ hgtL l ≤ 8 := by
  have h1 : ∀ x ∈ l, high x = false := by
    intro x hx
    cases e : high x with
    | false => rfl
    | true => rw [List.any_eq_true.2 ⟨x, hx, e⟩] at h; cases h
  refine ⟨?_, hgtL_le fun x hx => by have := h1 x hx; unfold high at this; simp at this; omega⟩
  rw [List.map_congr_left fun x hx => cutE_is (h1 x hx), List.map_id']
/-- Too high is what has a part that is, or becomes so. -/
theorem high_mk (k o vk vn : Int) (vs nm : List UInt8) (kids : List Ex) : high (.mk k o vk vn vs nm kids) = (kids.any high || decide (8 < hgt (.mk k o vk vn vs nm (kids.map cutE)))) := by
  cases h : kids.any high with
  | false =>
    obtain ⟨h1, h2⟩ := hgtL_any h
    rw [h1, Bool.false_or]
    rfl
  | true =>
    obtain ⟨x, hx, h⟩ := List.any_eq_true.1 h
    rw [Bool.true_or]
    unfold high at h ⊢
    simp at h
    have := hgtL_mem hx
    rw [hgt_mk]
    simp
    omega
theorem cut_leaf (k o vk vn : Int) (vs nm : List UInt8) : cutE (.mk k o vk vn vs nm []) = .mk k o vk vn vs nm [] := by
  refine cutE_low _ ?_
  rw [hgt_mk]
  show hgtL [] + 1 ≤ 8
  rw [hgtL]; omega
theorem high_leaf (k o vk vn : Int) (vs nm : List UInt8) : high (.mk k o vk vn vs nm []) = false := by
  unfold high
  rw [hgt_mk, show hgtL [] = 0 by rw [hgtL]]
  rfl
end Go.Proofs.YtlkmhdbmcfblkaaGreatDoor.Ep
