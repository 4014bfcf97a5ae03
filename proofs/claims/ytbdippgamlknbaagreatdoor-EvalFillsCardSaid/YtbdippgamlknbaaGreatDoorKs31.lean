/- The laws' own calls: few, works; a value's kinds (typing.Kinds). The laws' own calls: few; a value's kinds (typing.Kinds). A tree, cloned (expr.Clone): all its rows are the call's own. -/
import Derived.Deep.LoopGhost
import Derived.Maps.AppendAt
import Derived.OwnWalk
import Derived.Laws.AppendOwnNone
import Derived.WalkKit
import Derived.ProofKit
import Derived.Deep.QuietTactic
import Derived.BigQuiet
import Derived.Test.YtbdippgamlknbaaGreatDoorKs30
import Derived.Test.YtbdippgamlknbaaGreatDoorKs02
import Derived.Test.YtbdippgamlknbaaGreatDoorKs05
import Derived.Test.YtbdippgamlknbaaGreatDoorKs06
import Derived.Test.YtbdippgamlknbaaGreatDoorKs21
import Derived.Test.YtbdippgamlknbaaGreatDoorKs03
import Derived.Test.YtbdippgamlknbaaGreatDoorProg
import Derived.Deep.RegionHeld3
import Derived.Deep.CutRange
import Derived.Laws.ResultCell
import Derived.Test.YtbdippgamlknbaaGreatDoorKs22
import Derived.Test.YtbdippgamlknbaaGreatDoorKs20
namespace Go.Proofs.YtbdippgamlknbaaGreatDoor.Eo
open Go.RowKit Go.Proofs.YtbdippgamlknbaaGreatDoor.Mem Go.Proofs.YtbdippgamlknbaaGreatDoor.Right Go.Proofs.YtbdippgamlknbaaGreatDoor.Lx Go.Proofs.YtbdippgamlknbaaGreatDoor.Ep Go.Proofs.YtbdippgamlknbaaGreatDoor.Ev
set_option linter.unusedVariables false
set_option linter.unusedSimpArgs false
/-- Two kids side by side in a block of their own. -/
theorem two_kids {w : World} {S : Nat → Prop} {g : Nat} {t : TypeId} {a c : Ex} {ca cc : List Value} (h : Cel w g t (ca ++ cc).toArray) (hg : S g) (h1 : ExIn w S a ca) (h2 : ExIn w S c cc) : KidsIn w S (some ⟨g, 0, none⟩) 0 [a, c] := by
  have l1 := h1.len
  have l2 := h2.len
  refine (kidsIn_cons _ _ _ _ _ _).2 ⟨⟨g, 0, ca, rfl, hg, l1, fun i u hu => ?_, h1⟩, (kidsIn_cons _ _ _ _ _ _).2 ⟨⟨g, 0, cc, rfl, hg, l2, fun i u hu => ?_, h2⟩, kidsIn_nil _ _ _ _⟩⟩
  · have hi := (List.getElem?_eq_some_iff.1 hu).1
    have := h.at_ (0 + 0 * 7 + i)
    rw [this, List.getElem?_toArray, Nat.zero_mul, Nat.add_zero, Nat.zero_add, List.getElem?_append_left hi]
    exact hu
  · have hi := (List.getElem?_eq_some_iff.1 hu).1
    have := h.at_ (0 + (0 + 1) * 7 + i)
    rw [this, List.getElem?_toArray, List.getElem?_append_right (by omega), l1, show 0 + (0 + 1) * 7 + i - 7 = i by omega]
    exact hu
abbrev lt (k n : Int) : List Value := [.int .i64 1, .int .i64 0, .int .i64 k, .int .i64 n, .string (txt []), .string (txt []), .slice none 0 0]
abbrev bi (o : Int) (g : Nat) : List Value := [.int .i64 5, .int .i64 o, .int .i64 0, .int .i64 0, .string (txt []), .string (txt []), .slice (some ⟨g, 0, none⟩) 2 2]
theorem lt_in {w : World} {S : Nat → Prop} (k n : Int) : ExIn w S (lit k n []) (lt k n) :=
  (exIn_mk _ _ _ _ _ _ _ _ _ _).2 ⟨none, 0, rfl, Nat.le_refl _, Nat.zero_le _, fun _ => rfl, kidsIn_nil _ _ _ _⟩
theorem bi_in {w : World} {S : Nat → Prop} {g : Nat} {t : TypeId} {o : Int} {a c : Ex} {ca cc : List Value} (h : Cel w g t (ca ++ cc).toArray) (hg : S g) (h1 : ExIn w S a ca) (h2 : ExIn w S c cc) : ExIn w S (bin o a c) (bi o g) :=
  (exIn_mk _ _ _ _ _ _ _ _ _ _).2 ⟨_, 2, rfl, Nat.le_refl _, (by unfold maxLen; decide), (fun e => by cases e), two_kids h hg h1 h2⟩
def exD : Ex := bin 12 (lit 1 1 []) (lit 1 0 [])
def exH : Ex := bin 3 exD (lit 1 1 [])
def exA : Ex := bin 2 (lit 2 0 []) exH
def gN : GS := ⟨none, 0, 0, none, 0, 0, [], []⟩
theorem gN_in (w : World) (B : Nat) : GIn w B gN := ⟨Vals.none_, Vals.none_, rfl, rfl, ⟨by decide, by decide⟩, by simp [gN], by simp [gN]⟩
theorem exH_is : evalT gN exH = (nul, 10) := by kernel_rfl
theorem exA_is : evalT gN exA = (⟨2, 0, []⟩, 0) := by kernel_rfl
theorem ltl_lim (k n : Int) : Lim (lit k n []) := by
  unfold lit
  rw [lim_mk]; exact ⟨by decide, by decide, fun x hx => by simp at hx⟩
theorem bin_lim {o : Int} {a b : Ex} (h1 : Lim a) (h2 : Lim b) : Lim (bin o a b) := by
  unfold bin
  rw [lim_mk]
  refine ⟨by decide, by decide, fun x hx => ?_⟩
  simp only [List.mem_cons, List.not_mem_nil, or_false] at hx
  rcases hx with rfl | rfl
  · exact h1
  · exact h2
theorem ltl_wide {k n : Int} (h : i64n n) : Wide (lit k n []) := (wide_mk _ _ _ _ _ _ _).2 ⟨h, by simp⟩
theorem bin_wide {o : Int} {a b : Ex} (h1 : Wide a) (h2 : Wide b) : Wide (bin o a b) := (wide_mk _ _ _ _ _ _ _).2 ⟨⟨by decide, by decide⟩, fun x hx => by
  simp only [List.mem_cons, List.not_mem_nil, or_false] at hx
  rcases hx with rfl | rfl
  · exact h1
  · exact h2⟩
theorem n_any (n : Int) (w : World) : Calls Tryz.prog 33 #[.int .i64 n] w fun e w' => e = .returned (.agg #[.int .i64 1, .int .i64 0, .int .i64 1, .int .i64 n, .string ⟨#[]⟩, .string ⟨#[]⟩, .slice none 0 0]) ∧ Below w.heap.size w w' := by
  have HB := Lib.hid (al (Below.refl w.heap.size w) (.cells #[.int .i64 1, .int .i64 0, .int .i64 1, .int .i64 n, .string ⟨#[]⟩, .string ⟨#[]⟩, .slice none 0 0] 26))
  go_enter Tryz.func33, Tryz.ntmps33
  go_wp2
  (try simp only [Exit.inBlock, Exit.then])
  refine bodyPost_ret (v := .agg #[.int .i64 1, .int .i64 0, .int .i64 1, .int .i64 n, .string ⟨#[]⟩, .string ⟨#[]⟩, .slice none 0 0]) ?_ rfl ?_
  · simp only [results, Tryz.f33]
    go_simp
  exact ⟨rfl, HB.out⟩
/-- The example, wherever it lies: half, and the whole. -/
theorem half_in {w w2 w3 : World} (hs : Signs w) (h2 : Below w.heap.size w w2) (h3 : Below (w2.alloc (.cells (lt 1 1 ++ lt 1 0).toArray tXe)).heap.size (w2.alloc (.cells (lt 1 1 ++ lt 1 0).toArray tXe)) w3) {V : World} (hV : w3.alloc (.cells (bi 12 w2.heap.size ++ lt 1 1).toArray tXe) = V) :
    (Below w.heap.size w V ∧ w3.heap.size < V.heap.size) ∧ (∀ W, Below V.heap.size V W → Calls Tryz.prog 34 #[.agg (bi 3 w3.heap.size).toArray, .slice none 0 0, .slice none 0 0] W (ValE W (nul, 10))) ∧
    ∀ (W : World) (g4 : Nat), Below V.heap.size V W → Cel W g4 tXe (lt 2 0 ++ bi 3 w3.heap.size).toArray → Calls Tryz.prog 34 #[.agg (bi 2 g4).toArray, .slice none 0 0, .slice none 0 0] W (ValE W (⟨2, 0, []⟩, 0)) := by
  have hb : Below w.heap.size w V := by rw [← hV]; exact al (Mem.on (al h2 _) h3) _
  have k1 : Cel V w2.heap.size tXe (lt 1 1 ++ lt 1 0).toArray := by rw [← hV]; exact ((Cel.new w2 tXe _ rfl).below h3).alloc _
  have k2 : Cel V w3.heap.size tXe (bi 12 w2.heap.size ++ lt 1 1).toArray := by rw [← hV]; exact Cel.new w3 tXe _ rfl
  have t1 : ExIn V (fun b => b < V.heap.size) exD (bi 12 w2.heap.size) := bi_in k1 k1.lt (lt_in _ _) (lt_in _ _)
  have t2 : ExIn V (fun b => b < V.heap.size) exH (bi 3 w3.heap.size) := bi_in k2 k2.lt t1 (lt_in _ _)
  have l1 : Lim exH := bin_lim (bin_lim (ltl_lim _ _) (ltl_lim _ _)) (ltl_lim _ _)
  have m1 : Wide exH := bin_wide (bin_wide (ltl_wide ⟨by decide, by decide⟩) (ltl_wide ⟨by decide, by decide⟩)) (ltl_wide ⟨by decide, by decide⟩)
  refine ⟨⟨hb, k2.lt⟩, fun W hW => ?_, fun W g4 hW hc => ?_⟩
  · have := eval_any (gN_in W W.heap.size) (ExAt.on t2 hW) (hs.below (Mem.on hb hW) hs.lt) l1 m1
    rw [exH_is] at this
    exact this
  · have := eval_any (e := exA) (gN_in W W.heap.size) (bi_in hc hc.lt (lt_in _ _) (ExAt.on t2 hW)) (hs.below (Mem.on hb hW) hs.lt) (bin_lim (ltl_lim _ _) l1) (bin_wide (ltl_wide ⟨by decide, by decide⟩) m1)
    rw [exA_is] at this
    exact this
set_option maxRecDepth 100000 in
set_option maxHeartbeats 4000000 in
theorem works_any (w : World) (hs : Signs w) : Calls Tryz.prog 9 #[] w fun e w' => e = .returned (.bool true) ∧ Below w.heap.size w w' := by
  have HT := Lib.hid (fun w2 w3 => half_in (w := w) (w2 := w2) (w3 := w3) hs)
  clear hs
  go_enter Tryz.func9, Tryz.ntmps9
  go_wp2_with (fail)
  go_at_call 33
  with_reducible refine (n_any _ _).mono ?_
  rintro e1 w1 ⟨rfl, hb1⟩
  have HB1 := Lib.hid hb1
  clear hb1
  go_wp2_with (fail)
  go_at_call 33
  with_reducible refine (n_any _ _).mono ?_
  rintro e2 w2 ⟨rfl, hb2⟩
  have HB2 := Lib.hid (Mem.on HB1.out hb2)
  clear hb2
  go_wp2_with (fail)
  go_at_call 33
  with_reducible refine (n_any _ _).mono ?_
  rintro e3 w3 ⟨rfl, hb3⟩
  obtain ⟨V, hV⟩ : ∃ V, w3.alloc (.cells #[.int .i64 5, .int .i64 12, .int .i64 0, .int .i64 0, .string ⟨#[]⟩, .string ⟨#[]⟩, .slice (some ⟨w2.heap.size, 0, none⟩) 2 2, .int .i64 1, .int .i64 0, .int .i64 1, .int .i64 1, .string ⟨#[]⟩, .string ⟨#[]⟩, .slice none 0 0] 26) = V := ⟨_, rfl⟩
  obtain ⟨⟨hbv, hlt⟩, h1, h2⟩ := HT.out w2 w3 HB2.out hb3 hV
  have HBV := Lib.hid hbv
  obtain ⟨q, hq⟩ : ∃ q, w3.heap.size = q := ⟨_, rfl⟩
  rw [hq] at h1 h2
  have HE1 := Lib.hid (show ∀ W, Below V.heap.size V W → Calls Tryz.prog 34 #[.agg #[.int .i64 5, .int .i64 3, .int .i64 0, .int .i64 0, .string ⟨#[]⟩, .string ⟨#[]⟩, .slice (some ⟨q, 0, none⟩) 2 2], .slice none 0 0, .slice none 0 0] W fun e w' => e = .returned (.tuple #[.agg #[.int .i64 0, .int .i64 0, .string ⟨#[]⟩], .int .i64 10]) ∧ Below W.heap.size W w' from fun W hW => (h1 W hW).mono fun _ _ h => h)
  have HE2 := Lib.hid (show ∀ (W : World) (g4 : Nat), Below V.heap.size V W → Cel W g4 tXe #[.int .i64 1, .int .i64 0, .int .i64 2, .int .i64 0, .string ⟨#[]⟩, .string ⟨#[]⟩, .slice none 0 0, .int .i64 5, .int .i64 3, .int .i64 0, .int .i64 0, .string ⟨#[]⟩, .string ⟨#[]⟩, .slice (some ⟨q, 0, none⟩) 2 2] → Calls Tryz.prog 34 #[.agg #[.int .i64 5, .int .i64 2, .int .i64 0, .int .i64 0, .string ⟨#[]⟩, .string ⟨#[]⟩, .slice (some ⟨g4, 0, none⟩) 2 2], .slice none 0 0, .slice none 0 0] W fun e w' => e = .returned (.tuple #[.agg #[.int .i64 2, .int .i64 0, .string ⟨#[]⟩], .int .i64 0]) ∧ Below W.heap.size W w' from fun W g4 hW hc => (h2 W g4 hW hc).mono fun _ _ h => h)
  clear hbv h1 h2 hb3 HT HB1 HB2 hlt
  go_wp2_with (fail)
  obtain ⟨W4, hW4⟩ : ∃ W4, (V.alloc (.cells #[.int .i64 5, .int .i64 3, .int .i64 0, .int .i64 0, .string ⟨#[]⟩, .string ⟨#[]⟩, .slice (some ⟨q, 0, none⟩) 2 2] 26)).alloc (.cells #[.int .i64 1, .int .i64 0, .int .i64 2, .int .i64 0, .string ⟨#[]⟩, .string ⟨#[]⟩, .slice none 0 0, .int .i64 5, .int .i64 3, .int .i64 0, .int .i64 0, .string ⟨#[]⟩, .string ⟨#[]⟩, .slice (some ⟨q, 0, none⟩) 2 2] 26) = W4 := ⟨_, rfl⟩
  have HB4 := Lib.hid (show Below V.heap.size V W4 from by rw [← hW4]; exact al (al (Below.refl _ _) _) _)
  have HC4 := Lib.hid (show Cel W4 (V.heap.size + 1) tXe #[.int .i64 1, .int .i64 0, .int .i64 2, .int .i64 0, .string ⟨#[]⟩, .string ⟨#[]⟩, .slice none 0 0, .int .i64 5, .int .i64 3, .int .i64 0, .int .i64 0, .string ⟨#[]⟩, .string ⟨#[]⟩, .slice (some ⟨q, 0, none⟩) 2 2] from by rw [← hW4]; exact Cel.new _ _ _ (by simp))
  have HH4 := Lib.hid (show Cel W4 V.heap.size tXe #[.int .i64 5, .int .i64 3, .int .i64 0, .int .i64 0, .string ⟨#[]⟩, .string ⟨#[]⟩, .slice (some ⟨q, 0, none⟩) 2 2] from by rw [← hW4]; exact (Cel.new _ _ _ rfl).alloc _)
  rw [hW4]
  clear hW4
  go_at_call 34
  with_reducible refine (HE2.out _ _ HB4.out HC4.out).mono ?_
  rintro e5 w5 ⟨rfl, hb5⟩
  have HB5 := Lib.hid (Mem.on HB4.out hb5)
  have HH5 := Lib.hid (HH4.out.below hb5)
  have HV5 := Lib.hid (show Cel (w5.alloc (.cells #[.int .i64 2, .int .i64 0, .string ⟨#[]⟩] 23)) w5.heap.size tVa #[.int .i64 2, .int .i64 0, .string ⟨#[]⟩] from Cel.new _ _ _ rfl)
  have HB5a := Lib.hid (show Below V.heap.size V (w5.alloc (.cells #[.int .i64 2, .int .i64 0, .string ⟨#[]⟩] 23)) from al HB5.out _)
  have y0 := (HH5.out.alloc (.cells #[.int .i64 2, .int .i64 0, .string ⟨#[]⟩] 23)).at_ 0
  have y1 := (HH5.out.alloc (.cells #[.int .i64 2, .int .i64 0, .string ⟨#[]⟩] 23)).at_ 1
  have y2 := (HH5.out.alloc (.cells #[.int .i64 2, .int .i64 0, .string ⟨#[]⟩] 23)).at_ 2
  have y3 := (HH5.out.alloc (.cells #[.int .i64 2, .int .i64 0, .string ⟨#[]⟩] 23)).at_ 3
  have y4 := (HH5.out.alloc (.cells #[.int .i64 2, .int .i64 0, .string ⟨#[]⟩] 23)).at_ 4
  have y5 := (HH5.out.alloc (.cells #[.int .i64 2, .int .i64 0, .string ⟨#[]⟩] 23)).at_ 5
  have y6 := (HH5.out.alloc (.cells #[.int .i64 2, .int .i64 0, .string ⟨#[]⟩] 23)).at_ 6
  clear hb5
  go_wp2_with (fail)
  go_at_call 34
  with_reducible refine (HE1.out _ HB5a.out).mono ?_
  rintro e6 w6 ⟨rfl, hb6⟩
  have HB6 := Lib.hid (Mem.on HB5a.out hb6)
  have HV6 := Lib.hid ((HV5.out.below hb6).alloc (.cells #[.int .i64 0, .int .i64 0, .string ⟨#[]⟩] 23))
  have v0 := HV6.out.at_ 0
  have v1 := HV6.out.at_ 1
  have v2 := HV6.out.at_ 2
  clear hb6
  go_wp2
  go_ret
  exact ⟨rfl, al (Mem.on HBV.out HB6.out) _⟩
end Go.Proofs.YtbdippgamlknbaaGreatDoor.Eo
namespace Go.Proofs.YtbdippgamlknbaaGreatDoor.Eo
open Go.RowKit Go.Proofs.YtbdippgamlknbaaGreatDoor.Mem Go.Proofs.YtbdippgamlknbaaGreatDoor.Right Go.Proofs.YtbdippgamlknbaaGreatDoor.Lx Go.Proofs.YtbdippgamlknbaaGreatDoor.Ep Go.Proofs.YtbdippgamlknbaaGreatDoor.Ev
set_option linter.unusedVariables false
set_option linter.unusedSimpArgs false
/-- A list of values that came in. -/
structure Lv where
  A : Option Addr
  n : Nat
  c : Nat
  vs : List Vl
structure LvIn (w : World) (b i : Nat) (s : Lv) : Prop where
  cell : w.cell? ⟨b, i, none⟩ = some (.slice s.A s.n s.c)
  vals : Vals w w.heap.size s.A s.vs
  len : s.n = s.vs.length
  max : s.n ≤ 9223372036854775807
  siz : ∀ v ∈ s.vs, v.s.size ≤ maxLen
def FewL (s : Lv) : Prop := s.n ≤ 12 ∧ ∀ v ∈ s.vs, v.s.size ≤ 100
def FewE (w : World) (Ls : List Lv) (e : Ending) (w' : World) : Prop := ∃ r : Bool, e = .returned (.bool r) ∧ (r = true → ∀ s ∈ Ls, FewL s) ∧ w = w'
theorem take_all {α : Type} {p : α → Prop} {l : List α} {k : Nat} {x : α} (hx : l[k]? = some x) (h : ∀ y ∈ l.take k, p y) (hp : p x) : ∀ y ∈ l.take (k + 1), p y := fun y hy => by
  rw [List.take_add_one, hx] at hy
  rcases List.mem_append.1 hy with hy | hy
  · exact h y hy
  · simp at hy; subst hy; exact hp
set_option maxRecDepth 100000 in
set_option maxHeartbeats 1000000 in
theorem few_lists (Ls : List Lv) (b m c : Nat) (w : World) (hm : m = Ls.length) (hM : m ≤ 1000) (h : ∀ (i : Nat) (s : Lv), Ls[i]? = some s → LvIn w b i s) :
    Calls Tryz.prog 7 #[.slice (some ⟨b, 0, none⟩) m c] w (FewE w Ls) := by
  have H := Lib.hid h
  have HM := Lib.hid hm
  clear h hm
  go_enter Tryz.func7, Tryz.ntmps7
  go_wp2
  go_loop [3, 4] (fun i u => ∃ k : Nat, k ≤ m ∧ i = .int .i64 (k : Int) ∧ Hid (∀ s ∈ Ls.take k, FewL s)) (fun i _ => m - (intOf i).toNat)
  case atStart => exact ⟨0, Nat.zero_le _, rfl, Lib.hid (by simp)⟩
  case round =>
    obtain ⟨k, hk, rfl, HT⟩ := hrel
    by_cases hlt : k < m
    · have tl : decide ((k : Int) < (m : Int)) = true := decide_eq_true (by omega)
      obtain ⟨s, hs⟩ : ∃ s, Ls[k]? = some s := ⟨_, List.getElem?_eq_getElem (by have := HM.out; omega)⟩
      have HI := Lib.hid (H.out k s hs)
      have HS := Lib.hid hs
      have c0 := HI.out.cell
      have hmx := HI.out.max
      clear hs
      obtain ⟨A, n, sc, vs⟩ := s
      simp only at c0 hmx
      by_cases h12 : n ≤ 12
      · have t1 : decide (12 < (n : Int)) = false := decide_eq_false (by omega)
        go_wp2
        go_loop [4] (fun i => ∃ j : Nat, j ≤ n ∧ i = .int .i64 (j : Int) ∧ Hid (∀ v ∈ vs.take j, v.s.size ≤ 100)) (fun i => n - (intOf i).toNat)
        case atStart => exact ⟨0, Nat.zero_le _, rfl, Lib.hid (by simp)⟩
        case round =>
          obtain ⟨j, hj, rfl, HV⟩ := hrel
          by_cases hlj : j < n
          · have tj : decide ((j : Int) < (n : Int)) = true := decide_eq_true (by omega)
            obtain ⟨b2, o2, v, e2, hb2, hv, d0, d1, d2⟩ := HI.out.vals.at_ (k := j) (by have h : n = vs.length := HI.out.len; show j < vs.length; omega)
            simp only at e2
            subst e2
            have HVV := Lib.hid hv
            have hsz : v.s.size ≤ 9223372036854775807 := by
              have := HI.out.siz v (List.mem_of_getElem? hv)
              unfold maxLen at this; exact this
            clear hv
            by_cases h100 : v.s.size ≤ 100
            · have t2 : decide (100 < (v.s.size : Int)) = false := decide_eq_false (by omega)
              have HV2 := Lib.hid (take_all HVV.out HV.out h100)
              go_wp2
              go_round
              case rel => exact ⟨j + 1, by omega, by go_num, HV2⟩
              case measure => simp [intOf]; omega
            · have t2 : decide (100 < (v.s.size : Int)) = true := decide_eq_true (by omega)
              go_wp2
              go_ret
              exact ⟨false, rfl, (fun h => by cases h), rfl⟩
          · have tj : decide ((j : Int) < (n : Int)) = false := decide_eq_false (by omega)
            have HT2 := Lib.hid (take_all HS.out HT.out (show FewL ⟨A, n, sc, vs⟩ from ⟨h12, fun v hv => HV.out v (by
              rw [List.take_of_length_le (by have h : n = vs.length := HI.out.len; omega)]; exact hv)⟩))
            go_wp2
            go_round
            case rel => exact ⟨k + 1, by omega, by go_num, HT2⟩
            case measure => simp [intOf]; omega
      · have t1 : decide (12 < (n : Int)) = true := decide_eq_true (by omega)
        go_wp2
        go_ret
        exact ⟨false, rfl, (fun h => by cases h), rfl⟩
    · have tl : decide ((k : Int) < (m : Int)) = false := decide_eq_false (by omega)
      have HT2 := Lib.hid (show ∀ s ∈ Ls, FewL s from fun s hs => HT.out s (by rw [List.take_of_length_le (by have := HM.out; omega)]; exact hs))
      go_wp2
      go_ret
      exact ⟨true, rfl, (fun _ => HT2.out), rfl⟩
end Go.Proofs.YtbdippgamlknbaaGreatDoor.Eo
namespace Go.Proofs.YtbdippgamlknbaaGreatDoor.Ep
open Go.RowKit Go.Proofs.YtbdippgamlknbaaGreatDoor.Mem Go.Proofs.YtbdippgamlknbaaGreatDoor.Right
set_option linter.unusedVariables false
theorem undrew {B : Nat} {w w1 : World} (h : Below B w.drew w1) : Below B w w1 := ⟨h.os, h.tape, h.output, h.size, h.block⟩
theorem results_one {fn : Func} {p : Tmp} {ty : TypeId} (h : fn.results = #[.cell p ty]) (tmps : Array Value) (P : Program) (w : World) :
    (results fn tmps).run P w = ((asAddr (tmps.getD p undef)).run P w).andThen fun a w₁ => (loadVar ty a).run P w₁ := by
  simp only [results, h]
  simp [Sem.run_bind, Result.andThen]
/-- A row of trees that may be written. -/
def OpenB (w : World) (b : Nat) : Prop := ∃ cur, Cel w b tE cur
theorem OpenB.lt {w : World} {b : Nat} (h : OpenB w b) : b < w.heap.size := by obtain ⟨_, h⟩ := h; exact h.lt
def put7 (w : World) (g q : Nat) (v0 v1 v2 v3 v4 v5 v6 : Value) : World :=
  ((((((w.setCell ⟨g, q, none⟩ v0).setCell ⟨g, q + 1, none⟩ v1).setCell ⟨g, q + 2, none⟩ v2).setCell ⟨g, q + 3, none⟩ v3).setCell ⟨g, q + 4, none⟩ v4).setCell ⟨g, q + 5, none⟩ v5).setCell ⟨g, q + 6, none⟩ v6
section
variable {w : World} {g q : Nat} {v0 v1 v2 v3 v4 v5 v6 : Value}
theorem put7_cel {t : TypeId} {cur : Array Value} (h : Cel w g t cur) (hq : q + 7 ≤ cur.size) : ∃ cur', Cel (put7 w g q v0 v1 v2 v3 v4 v5 v6) g t cur' ∧ cur'.size = cur.size ∧
    (∀ i u, [v0, v1, v2, v3, v4, v5, v6][i]? = some u → cur'[q + i]? = some u) ∧ ∀ m, (m < q ∨ q + 7 ≤ m) → cur'[m]? = cur[m]? := by
  refine ⟨_, ((((((h.set q v0).set (q + 1) v1).set (q + 2) v2).set (q + 3) v3).set (q + 4) v4).set (q + 5) v5).set (q + 6) v6, by simp, fun i u hu => ?_, fun m hm => ?_⟩
  · have hi := (List.getElem?_eq_some_iff.1 hu).1
    simp only [List.length_cons, List.length_nil] at hi
    match i, hi, hu with
    | 0, _, hu => simp at hu; subst hu; simp [Array.getElem?_setIfInBounds]; omega
    | 1, _, hu => simp at hu; subst hu; simp [Array.getElem?_setIfInBounds]; omega
    | 2, _, hu => simp at hu; subst hu; simp [Array.getElem?_setIfInBounds]; omega
    | 3, _, hu => simp at hu; subst hu; simp [Array.getElem?_setIfInBounds]; omega
    | 4, _, hu => simp at hu; subst hu; simp [Array.getElem?_setIfInBounds]; omega
    | 5, _, hu => simp at hu; subst hu; simp [Array.getElem?_setIfInBounds]; omega
    | 6, _, hu => simp at hu; subst hu; simp [Array.getElem?_setIfInBounds]; omega
  · simp only [Array.getElem?_setIfInBounds]
    rw [if_neg (by omega), if_neg (by omega), if_neg (by omega), if_neg (by omega), if_neg (by omega), if_neg (by omega), if_neg (by omega)]
theorem put7_oth {b : Nat} (hb : b ≠ g) : (put7 w g q v0 v1 v2 v3 v4 v5 v6).heap[b]? = w.heap[b]? := by
  unfold put7
  simp only [Below.heap_setCell _ ⟨g, _, none⟩ _ b hb]
theorem put7_size : (put7 w g q v0 v1 v2 v3 v4 v5 v6).heap.size = w.heap.size := by
  unfold put7; simp
theorem Cel.put_other {B : Nat} {t : TypeId} {cur : Array Value} (h : Cel w B t cur) (hB : B ≠ g) : Cel (put7 w g q v0 v1 v2 v3 v4 v5 v6) B t cur := (put7_oth hB).trans h
theorem put7_below {n0 : Nat} {a : World} (h : Below n0 a w) (hg : n0 ≤ g) : Below n0 a (put7 w g q v0 v1 v2 v3 v4 v5 v6) :=
  ((((((h.setCell (p := ⟨g, _, none⟩) hg v0).setCell (p := ⟨g, _, none⟩) hg v1).setCell (p := ⟨g, _, none⟩) hg v2).setCell (p := ⟨g, _, none⟩) hg v3).setCell (p := ⟨g, _, none⟩) hg v4).setCell (p := ⟨g, _, none⟩) hg v5).setCell (p := ⟨g, _, none⟩) hg v6
end
end Go.Proofs.YtbdippgamlknbaaGreatDoor.Ep
