/- table.isThere of any table: are all columns that constraints and indexes have the table's? -/
import Derived.Test.YtcblddpapehdeaaDoorC24
import Derived.Test.YtcblddpapehdeaaDoorC36
namespace Go.Proofs.YtcblddpapehdeaaDoor.Tk
open Go.RowKit Go.Proofs.YtcblddpapehdeaaDoor.Mem Go.Proofs.YtcblddpapehdeaaDoor.Ep Go.Proofs.YtcblddpapehdeaaDoor.Sm Go.Proofs.YtcblddpapehdeaaDoor.Right Go.ChangeShapes Go.WideShapes
set_option linter.unusedVariables false
def thB (x : Tb) : Bool := decide (∀ l ∈ usesL x, plOk x.cols l)
theorem pl_cases (cols : List Co) (l : List Bs) : (plOk cols l ∧ plE cols l = 0) ∨ (¬ plOk cols l ∧ plE cols l = 4) := by
  by_cases h : plOk cols l
  · exact .inl ⟨h, (pl_yes h).2⟩
  · exact .inr ⟨h, (pl_no h).2⟩
set_option maxRecDepth 20000 in
set_option maxHeartbeats 4000000 in
theorem there_any (x : Tb) (f : Fb) (w : World) (hx : FbIn w w.heap.size f x) (h3 : f.n3 ≤ 1000) (h4 : f.n4 ≤ 1000) (h5 : f.n5 ≤ 1000) (hz : ∀ c ∈ x.cons, c.kind = 2 → Lim c.chk ∧ size c.chk ≤ 1000) (hzc : ∀ y ∈ x.cols, y.nm.length ≤ 1000000) (hzz : ∀ l ∈ usesL x, l.length ≤ 100000 ∧ ∀ s ∈ l, s.length ≤ 1000000) : Calls Tryd.prog 41 #[.agg #[.string (txt x.nm), .string (txt x.own), .int .i64 x.ver, .slice f.A3 f.n3 f.a3, .slice f.A4 f.n4 f.a4, .slice f.A5 f.n5 f.a5]] w fun e w' => e = .returned (.bool (thB x)) ∧ Below w.heap.size w w' := by
  obtain ⟨V, hV⟩ : ∃ W1, w.alloc (.cells #[.string (txt x.nm), .string (txt x.own), .int .i64 x.ver, .slice f.A3 f.n3 f.a3, .slice f.A4 f.n4 f.a4, .slice f.A5 f.n5 f.a5] tTb) = W1 := ⟨_, rfl⟩
  have hb : Below w.heap.size w V := by rw [← hV]; exact al (Below.refl _ _) _
  have HX := Lib.hid (show Tbx V w.heap.size f x from by rw [← hV]; exact tbx_new hx)
  have HFA := Lib.hid (fun W (g : Below V.heap.size V W) => HX.out.facts g)
  have HE := Lib.hid (show ∀ W, Below V.heap.size V W → Below w.heap.size w W from fun W g => hb.trans (g.mono hb.size))
  obtain ⟨ya0, ya1, ya2, ya3, ya4, ya5, yb0, yb1, yb2, yb3, yb4, yb5⟩ := HFA.out V (Below.refl _ _)
  obtain ⟨U, hU⟩ : ∃ L, usesL x = L := ⟨_, rfl⟩
  obtain ⟨m, hm⟩ : ∃ m, U.length = m := ⟨_, rfl⟩
  have HM := Lib.hid hm
  have hmb : m ≤ 10000 := by have h1 := usesL_len x; have h2 := hx.n4; have h3 := hx.n5; rw [hU, hm] at h1; omega
  have HTH := Lib.hid (show thB x = decide (∀ l ∈ U, plOk x.cols l) from by unfold thB; rw [hU])
  have HZZ := Lib.hid (hU ▸ hzz)
  have HUS := Lib.hid (show Calls Tryd.prog 55 #[.agg #[.string (txt x.nm), .string (txt x.own), .int .i64 x.ver, .slice f.A3 f.n3 f.a3, .slice f.A4 f.n4 f.a4, .slice f.A5 f.n5 f.a5]] V fun e w' => ∃ A c, e = .returned (.slice A m c) ∧ RowR w' w'.heap.size A U ∧ Below V.heap.size V w' from (uses_any x f V (HX.out.on (Below.refl _ _)).all (by omega) (by omega) hz).mono fun e w' ⟨A, c, h1, h2⟩ => by
    obtain ⟨A', c', h3, h4⟩ := h2.rows
    injection h3 with h3 _ h5
    subst h3 h5
    exact ⟨A, c, by rw [h1, hU, hm], hU ▸ h4, h2.low⟩)
  have HPC := Lib.hid (show ∀ W (l : List Bs) (P : Option Addr) (k c : Nat), Below V.heap.size V W → l ∈ U → l.length = k → Row W W.heap.size P (l.map str) → Calls Tryd.prog 14 #[.agg #[.string (txt x.nm), .string (txt x.own), .int .i64 x.ver, .slice f.A3 f.n3 f.a3, .slice f.A4 f.n4 f.a4, .slice f.A5 f.n5 f.a5], .slice P k c] W (PlD x.cols l W) from fun W l P k c g hl hk hr => places_any x f l P k c W (HX.out.on g).all (by omega) hzc (HZZ.out l hl).2 hk (by have := (HZZ.out l hl).1; omega) hr)
  clear hx hb hz hzz hzc hU hm h3 h4 h5
  go_enter Tryd.func41, Tryd.ntmps41
  go_wp2_with (go_at_call 55; (with_reducible refine HUS.out.mono ?_); rintro e1 w1 ⟨A1, c1, rfl, hr1, hb1⟩; have HR1 := Lib.hid hr1; have HB1 := Lib.hid hb1; clear hr1 hb1)
  clear ya0 ya1 ya2 ya3 ya4 ya5 yb0 yb1 yb2 yb3 yb4 yb5
  go_loopw [10] (fun i wr => ∃ j : Nat, j ≤ m ∧ i = .int .i64 (j : Int) ∧ Hid (∀ l ∈ U.take j, plOk x.cols l) ∧ Hid (Below w1.heap.size w1 wr)) (fun i _ => m + 1 - (intOf i).toNat)
  case atStart => exact ⟨0, Nat.zero_le _, rfl, Lib.hid (fun v hv => by simp at hv), Lib.hid (Below.refl _ _)⟩
  case round =>
    obtain ⟨j, hj, rfl, HT, HW⟩ := hrel
    have hlo := Mem.on HB1.out HW.out
    by_cases hlt : j < m
    · --<
      have tl : decide ((j : Int) < (m : Int)) = true := decide_eq_true (by omega)
      have tl2 : decide (j < m) = true := decide_eq_true hlt
      obtain ⟨l, hl⟩ := some_at HM.out hlt
      obtain ⟨b, o, P, c2, rfl, hbb, c0, hc, hr⟩ := (HR1.out.below HW.out (Nat.le_refl _)) j l hl
      obtain ⟨k, hk⟩ : ∃ k, l.length = k := ⟨_, rfl⟩
      rw [hk] at c0
      obtain ⟨za0, za1, za2, za3, za4, za5, zb0, zb1, zb2, zb3, zb4, zb5⟩ := HFA.out wr hlo
      have HL := Lib.hid hl
      have hrw : Row wr wr.heap.size P (l.map str) := hr.more HW.out.size
      rcases pl_cases x.cols l with ⟨hok, he⟩ | ⟨hno, he⟩
      · have HC := Lib.hid (show Calls Tryd.prog 14 #[.agg #[.string (txt x.nm), .string (txt x.own), .int .i64 x.ver, .slice f.A3 f.n3 f.a3, .slice f.A4 f.n4 f.a4, .slice f.A5 f.n5 f.a5], .slice P k c2] wr fun e w' => ∃ A n c, e = .returned (.tuple #[.slice A n c, .int .i64 0]) ∧ Below wr.heap.size wr w' from (HPC.out wr l P k c2 hlo (List.mem_of_getElem? hl) hk hrw).mono fun e w' ⟨A, n, c, h1, _, _, h4⟩ => ⟨A, n, c, by rw [h1, he], h4⟩)
        have HT2 := Lib.hid (take_all_on (C := fun l => plOk x.cols l) hl HT.out hok)
        clear hl hbb hc hr hk hrw hok he hlo
        go_wp2_with (go_at_call 14; (with_reducible refine HC.out.mono ?_); rintro e2 w2 ⟨A2, n2, a2, rfl, hb2⟩; have HW2 := Lib.hid (Mem.on HW.out hb2); clear hb2)
        go_roundw
        case rel => exact ⟨j + 1, by omega, by go_num, HT2, HW2⟩
        case measure => simp [intOf]; omega
      · have HC := Lib.hid (show Calls Tryd.prog 14 #[.agg #[.string (txt x.nm), .string (txt x.own), .int .i64 x.ver, .slice f.A3 f.n3 f.a3, .slice f.A4 f.n4 f.a4, .slice f.A5 f.n5 f.a5], .slice P k c2] wr fun e w' => ∃ A n c, e = .returned (.tuple #[.slice A n c, .int .i64 4]) ∧ Below wr.heap.size wr w' from (HPC.out wr l P k c2 hlo (List.mem_of_getElem? hl) hk hrw).mono fun e w' ⟨A, n, c, h1, _, _, h4⟩ => ⟨A, n, c, by rw [h1, he], h4⟩)
        have HF := Lib.hid (show thB x = false from by rw [HTH.out]; exact decide_eq_false fun g => hno (g l (List.mem_of_getElem? hl)))
        have HLO := Lib.hid hlo
        clear hl hbb hc hr hk hrw hno he hlo
        go_wp2_with (go_at_call 14; (with_reducible refine HC.out.mono ?_); rintro e2 w2 ⟨A2, n2, a2, rfl, hb2⟩; have HW2 := Lib.hid (Mem.on HLO.out hb2); clear hb2)
        go_ret
        exact ⟨rb HF.out.symm, HE.out _ HW2.out⟩
      -->
    · have tl : decide ((j : Int) < (m : Int)) = false := decide_eq_false (by omega)
      have tl2 : decide (j < m) = false := decide_eq_false hlt
      have HF := Lib.hid (show thB x = true from by
        have h1 := HT.out
        rw [List.take_of_length_le (by have := HM.out; omega)] at h1
        rw [HTH.out]
        exact decide_eq_true h1)
      have HLO := Lib.hid hlo
      clear hlo
      go_wp2
      go_ret
      exact ⟨rb HF.out.symm, HE.out _ HLO.out⟩
end Go.Proofs.YtcblddpapehdeaaDoor.Tk
