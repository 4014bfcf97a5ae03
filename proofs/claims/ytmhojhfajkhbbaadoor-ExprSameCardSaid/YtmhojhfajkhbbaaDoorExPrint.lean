/- An expression is written where a rank is asked for: in brackets, where its own is below that. -/
import Derived.Test.YtmhojhfajkhbbaaDoorExOut
namespace Go.Proofs.YtmhojhfajkhbbaaDoor.Ep
open Go.RowKit Go.Proofs.YtmhojhfajkhbbaaDoor.Mem Go.Proofs.YtmhojhfajkhbbaaDoor.Right Go.Proofs.YtmhojhfajkhbbaaDoor.Lx
set_option linter.unusedVariables false

theorem wr_low {b : Nat} {w a : World} (h : Wr b w a) : Below b w a := h.1
set_option maxHeartbeats 4000000 in
theorem kid_of_bare {e : Ex} (hB : BareC e) : KidC e := by
  intro cs b r l w h hl hO hg hlen
  have hcs := h
  obtain ⟨k, o, vk, vn, vs, nm, kids⟩ := e
  obtain ⟨A, kn, c, rfl, -⟩ := ex_open h
  have hrank : (Ex.mk k o vk vn vs nm kids).rank = rk k o := rfl
  obtain ⟨e, he⟩ : ∃ e, Ex.mk k o vk vn vs nm kids = e := ⟨_, rfl⟩
  rw [he] at hcs hB hrank hlen ⊢
  clear he h
  obtain ⟨rr, hrr⟩ : ∃ rr, rk k o = rr := ⟨_, rfl⟩
  rw [hrr] at hrank
  have hbw := hl.2
  have hw0 := ((Wr.refl b w).alloc hbw (.cells (prC b) tP)).alloc (by simp; omega) (.cells #[.int .i64 k, .int .i64 o, .int .i64 vk, .int .i64 vn, .string (txt vs), .string (txt nm), .slice A kn c] tE)
  have hl0 := (hl.alloc (.cells (prC b) tP)).alloc (.cells #[.int .i64 k, .int .i64 o, .int .i64 vk, .int .i64 vn, .string (txt vs), .string (txt nm), .slice A kn c] tE)
  have hpb : Cel ((w.alloc (.cells (prC b) tP)).alloc (.cells #[.int .i64 k, .int .i64 o, .int .i64 vk, .int .i64 vn, .string (txt vs), .string (txt nm), .slice A kn c] tE)) w.heap.size tP (prC b) := (Cel.new w tP (prC b) rfl).alloc _
  have heb : Cel ((w.alloc (.cells (prC b) tP)).alloc (.cells #[.int .i64 k, .int .i64 o, .int .i64 vk, .int .i64 vn, .string (txt vs), .string (txt nm), .slice A kn c] tE)) (w.heap.size + 1) tE #[.int .i64 k, .int .i64 o, .int .i64 vk, .int .i64 vn, .string (txt vs), .string (txt nm), .slice A kn c] := Cel.new _ tE _ (by simp)
  obtain ⟨W, hW⟩ : ∃ W, (w.alloc (.cells (prC b) tP)).alloc (.cells #[.int .i64 k, .int .i64 o, .int .i64 vk, .int .i64 vn, .string (txt vs), .string (txt nm), .slice A kn c] tE) = W := ⟨_, rfl⟩
  have hbw1 : b < w.heap.size := hl.lt
  rw [hW] at hw0 hl0 hpb heb
  have HW := Lib.hid hw0
  have HLW := Lib.hid hl0
  have HE := Lib.hid (hcs.wr hw0)
  have HP := Lib.hid hpb
  have HEB := Lib.hid heb
  have HO := Lib.hid (hO.below hw0.1 hg)
  have HLEN := Lib.hid hlen
  have HLN := Lib.hid (show Calls Tryd.prog 17 #[.pointer (some ⟨b, 0, none⟩)] W fun e w' => e = .returned (.int .i64 (l.length : Int)) ∧ w' = W from long_any b l W hl0)
  have hX : ∀ W', Wr b W W' → W'.cell? ⟨w.heap.size, 0, none⟩ = some (.func (.func 16) #[.pointer (some ⟨b, 0, none⟩)] #[]) ∧ W'.cell? ⟨w.heap.size, 1, none⟩ = some (.func (.func 17) #[.pointer (some ⟨b, 0, none⟩)] #[]) := fun W' hW' => by
    have := hW'.cel (by omega) (by decide) hpb
    exact ⟨this.at_ 0, this.at_ 1⟩
  have hY : ∀ W', Wr b W W' → W'.cell? ⟨w.heap.size + 1, 0, none⟩ = some (.int .i64 k) ∧ W'.cell? ⟨w.heap.size + 1, 1, none⟩ = some (.int .i64 o) ∧ W'.cell? ⟨w.heap.size + 1, 2, none⟩ = some (.int .i64 vk) ∧ W'.cell? ⟨w.heap.size + 1, 3, none⟩ = some (.int .i64 vn) ∧ W'.cell? ⟨w.heap.size + 1, 4, none⟩ = some (.string (txt vs)) ∧ W'.cell? ⟨w.heap.size + 1, 5, none⟩ = some (.string (txt nm)) ∧ W'.cell? ⟨w.heap.size + 1, 6, none⟩ = some (.slice A kn c) := fun W' hW' => by
    have := hW'.cel (by omega) (by decide) heb
    exact ⟨this.at_ 0, this.at_ 1, this.at_ 2, this.at_ 3, this.at_ 4, this.at_ 5, this.at_ 6⟩
  have HX := Lib.hid hX
  have HY := Lib.hid hY
  have HBR := Lib.hid (show ∀ (l : List UInt8) W', ExAt W' b e [.int .i64 k, .int .i64 o, .int .i64 vk, .int .i64 vn, .string (txt vs), .string (txt nm), .slice A kn c] → Bl b l W' → Osg W' → l.length + (tx (pcs e)).length ≤ 1000000 → Calls Tryd.prog 25 #[prV b, exV k o vk vn (txt vs) (txt nm) A kn c] W' fun x w' => x = .returned (.tuple #[]) ∧ ∃ l', Bl b l' w' ∧ Wr b W' w' ∧ WT l (tx (pcs e)) l' from fun l W' h1 h2 h3 h4 => hB _ b l W' h1 h2 h3 hg h4)
  have HRK := Lib.hid (show ∀ W, Calls Tryd.prog 24 #[exV k o vk vn (txt vs) (txt nm) A kn c] W fun e w' => e = .returned (.int .i64 (rr : Int)) ∧ Below W.heap.size W w' from fun W => by rw [← hrr]; exact rank_any k o vk vn _ _ A kn c W)
  clear hcs hB hlen hw0 hl0 hpb heb hl hO hbw hrr hX hY
  obtain ⟨x0, x1⟩ := HX.out W (Wr.refl _ _)
  obtain ⟨y0, y1, y2, y3, y4, y5, y6⟩ := HY.out W (Wr.refl _ _)
  by_cases hlong : 400 < l.length
  · have tl : decide (400 < (l.length : Int)) = true := decide_eq_true (by omega)
    have HST := Lib.hid (WT.stop (tx (kidP e r)) hlong)
    clear hlong hrank
    go_enter Tryd.func18, Tryd.ntmps18
    go_wp2_with (first | (go_at_call 17; (with_reducible refine HLN.out.mono ?_); rintro e' w1 ⟨rfl, rfl⟩))
    go_end0
    exact ⟨rfl, l, HLW.out, HW.out, HST.out⟩
  have tl : decide (400 < (l.length : Int)) = false := decide_eq_false (by omega)
  clear hlong
  by_cases hrk : rr < r
  · have tr : decide (rr < r) = true := decide_eq_true hrk
    have HT := Lib.hid (show tx (kidP e r) = [40] ++ (tx (pcs e) ++ [41]) by
      unfold kidP asked br
      rw [hrank, decide_eq_true hrk, if_pos rfl, tx_some, tx_app, tx_some]
      rfl)
    have HLEN := Lib.hid (show l.length + (tx (pcs e)).length + 2 ≤ 1000000 by have := HLEN.out; rw [HT.out] at this; simp at this; omega)
    have HPUT := Lib.hid (show ∀ (s : ByteArray) (m : List UInt8) W', Bl b m W' → m.length + s.size ≤ 1000000000 → Calls Tryd.prog 16 #[.pointer (some ⟨b, 0, none⟩), .string s] W' fun e w' => ∃ n, e = .returned (.tuple #[.int .i64 n, .nilIface]) ∧ Bl b (m ++ s.data.toList) w' ∧ Wr b W' w' from fun s m W' h1 h2 => put_any b m s W' h1 h2)
    clear hrk hrank
    go_enter Tryd.func18, Tryd.ntmps18
    go_wp2_with (first
      | (go_at_call 17; (with_reducible refine HLN.out.mono ?_); rintro e' w1 ⟨rfl, rfl⟩)
      | (go_at_call 24; (with_reducible refine (HRK.out _).mono ?_); rintro e' w1 ⟨rfl, hb1⟩; have HR1 := Lib.hid (Wr.of hb1 (Nat.le_of_lt HLW.out.lt)); have HL1 := Lib.hid (HLW.out.below hb1); obtain ⟨x0, x1⟩ := HX.out w1 HR1.out; obtain ⟨y0, y1, y2, y3, y4, y5, y6⟩ := HY.out w1 HR1.out; clear hb1)
      | (go_at_call 16; (with_reducible refine (HPUT.out ⟨#[40]⟩ l w1 HL1.out (by have := HLEN.out; rw [show (ByteArray.mk #[40]).size = 1 from rfl]; omega)).mono ?_); rintro e' w2 ⟨n2, rfl, hl2, hr2⟩; have HL2 := Lib.hid hl2; have HR2 := Lib.hid (HR1.out.trans hr2); obtain ⟨x0, x1⟩ := HX.out w2 HR2.out; obtain ⟨y0, y1, y2, y3, y4, y5, y6⟩ := HY.out w2 HR2.out; clear hl2 hr2)
      | (go_at_call 25; (with_reducible refine (HBR.out (l ++ [40]) w2 (HE.out.wr HR2.out) HL2.out (HO.out.below (wr_low HR2.out) hg) (by have := HLEN.out; rw [List.length_append, List.length_singleton]; omega)).mono ?_); rintro e' w3 ⟨rfl, l3, hl3, hr3, ht3⟩; have HL3 := Lib.hid hl3; have HT3 := Lib.hid ht3; have HR3 := Lib.hid (HR2.out.trans hr3); obtain ⟨x0, x1⟩ := HX.out w3 HR3.out; obtain ⟨y0, y1, y2, y3, y4, y5, y6⟩ := HY.out w3 HR3.out; clear hl3 hr3 ht3)
      | (go_at_call 16; (with_reducible refine (HPUT.out ⟨#[41]⟩ l3 w3 HL3.out (by have := HLEN.out; have := HT3.out.len; rw [List.length_append, List.length_singleton] at this; rw [show (ByteArray.mk #[41]).size = 1 from rfl]; omega)).mono ?_); rintro e' w4 ⟨n4, rfl, hl4, hr4⟩; have HL4 := Lib.hid hl4; have HR4 := Lib.hid (HR3.out.trans hr4); clear hl4 hr4))
    go_end0
    refine ⟨rfl, _, HL4.out, HW.out.trans HR4.out, ?_⟩
    rw [HT.out]
    exact (WT.lit l [40]).trans (HT3.out.trans (WT.lit l3 [41]))
  · have tr : decide (rr < r) = false := decide_eq_false hrk
    have HT := Lib.hid (show tx (kidP e r) = tx (pcs e) by
      unfold kidP asked br
      rw [hrank, decide_eq_false hrk, if_neg (by decide)])
    have HLEN := Lib.hid (show l.length + (tx (pcs e)).length ≤ 1000000 by have := HLEN.out; rw [HT.out] at this; exact this)
    clear hrk hrank
    go_enter Tryd.func18, Tryd.ntmps18
    go_wp2_with (first
      | (go_at_call 17; (with_reducible refine HLN.out.mono ?_); rintro e' w1 ⟨rfl, rfl⟩)
      | (go_at_call 24; (with_reducible refine (HRK.out _).mono ?_); rintro e' w1 ⟨rfl, hb1⟩; have HR1 := Lib.hid (Wr.of hb1 (Nat.le_of_lt HLW.out.lt)); have HL1 := Lib.hid (HLW.out.below hb1); obtain ⟨x0, x1⟩ := HX.out w1 HR1.out; obtain ⟨y0, y1, y2, y3, y4, y5, y6⟩ := HY.out w1 HR1.out; clear hb1)
      | (go_at_call 25; (with_reducible refine (HBR.out l w1 (HE.out.wr HR1.out) HL1.out (HO.out.below (wr_low HR1.out) hg) (by have := HLEN.out; omega)).mono ?_); rintro e' w3 ⟨rfl, l3, hl3, hr3, ht3⟩; have HL3 := Lib.hid hl3; have HT3 := Lib.hid ht3; have HR3 := Lib.hid (HR1.out.trans hr3); clear hl3 hr3 ht3))
    go_end0
    refine ⟨rfl, _, HL3.out, HW.out.trans HR3.out, ?_⟩
    rw [HT.out]
    exact HT3.out
end Go.Proofs.YtmhojhfajkhbbaaDoor.Ep
