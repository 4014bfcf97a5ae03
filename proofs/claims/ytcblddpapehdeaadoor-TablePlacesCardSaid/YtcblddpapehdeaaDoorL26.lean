/- Columns' places: what the document answers. -/
import Derived.Test.YtcblddpapehdeaaDoorL25
import Derived.Test.YtcblddpapehdeaaDoorL19
namespace Go.Proofs.YtcblddpapehdeaaDoor.Tk
open Go.RowKit Go.Proofs.YtcblddpapehdeaaDoor.Mem Go.Proofs.YtcblddpapehdeaaDoor.Ep Go.Proofs.YtcblddpapehdeaaDoor.Sm Go.Proofs.YtcblddpapehdeaaDoor.Right Go.ChangeShapes Go.WideShapes
set_option linter.unusedVariables false
abbrev tI : TypeId := 3
theorem elemI : Elem Tryd.prog 33 tI 8 := Elem.of (z := .int .i64 0) (by kernel_rfl) (by kernel_rfl) rfl
def plN (cols : List Co) (l : List Bs) : List Int := l.map (colI cols)
def plOk (cols : List Co) (l : List Bs) : Prop := ∀ s ∈ l, 0 ≤ colI cols s
instance instPlOk (cols : List Co) (l : List Bs) : Decidable (plOk cols l) := by unfold plOk; infer_instance
/-- The places, or none and the error. -/
def plL (cols : List Co) (l : List Bs) : List Int := if plOk cols l then plN cols l else []
def plE (cols : List Co) (l : List Bs) : Int := if plOk cols l then 0 else 4
theorem pl_yes {cols : List Co} {l : List Bs} (h : plOk cols l) : plL cols l = plN cols l ∧ plE cols l = 0 := ⟨if_pos h, if_pos h⟩
theorem pl_no {cols : List Co} {l : List Bs} (h : ¬ plOk cols l) : plL cols l = [] ∧ plE cols l = 4 := ⟨if_neg h, if_neg h⟩
/-- What Places leaves. -/
def PlD (cols : List Co) (l : List Bs) (w : World) (e : Ending) (w' : World) : Prop := ∃ A n c, e = .returned (.tuple #[.slice A n c, .int .i64 (plE cols l)]) ∧ n = (plL cols l).length ∧ Row w' w'.heap.size A ((plL cols l).map (Value.int .i64)) ∧ Below w.heap.size w w'
theorem own_low {V w0 w' : World} {e : TypeId} {v : Value} {n : Nat} {us : List Value} {o : Obj} (hown : w0.ownsRow V.heap.size e 1 v n us) (hb : Below V.heap.size V w0) (g : (w0.alloc o).grownBy w' v.ownBlock) : Below V.heap.size V w' := by
  have hb1 := al hb o
  exact hb1.trans ⟨g.os, g.tape, g.output, g.size, fun j hj => g.block j (by have := hb1.size; omega) (fun e => by have := (hown.lt j e.symm).1; omega)⟩
set_option maxRecDepth 20000 in
set_option maxHeartbeats 4000000 in
theorem refPlaces_any (x : Tb) (f : Fb) (L : List Bs) (A : Option Addr) (n c : Nat) (w : World) (hx : FbIn w w.heap.size f x) (h3 : f.n3 ≤ 100000) (hn : L.length = n) (hN : n ≤ 100000) (hL : Row w w.heap.size A (L.map str)) : Calls Tryd.prog 15 #[.agg #[.string (txt x.nm), .string (txt x.own), .int .i64 x.ver, .slice f.A3 f.n3 f.a3, .slice f.A4 f.n4 f.a4, .slice f.A5 f.n5 f.a5], .slice A n c] w (PlD x.cols L w) := by
  obtain ⟨V, hV⟩ : ∃ W1, w.alloc (.cells #[.string (txt x.nm), .string (txt x.own), .int .i64 x.ver, .slice f.A3 f.n3 f.a3, .slice f.A4 f.n4 f.a4, .slice f.A5 f.n5 f.a5] tTb) = W1 := ⟨_, rfl⟩
  have hb : Below w.heap.size w V := by rw [← hV]; exact al (Below.refl _ _) _
  have HX := Lib.hid (show Tbx V w.heap.size f x from by rw [← hV]; exact tbx_new hx)
  have HFA := Lib.hid (fun W (g : Below V.heap.size V W) => HX.out.facts g)
  have HE := Lib.hid (show ∀ W, Below V.heap.size V W → Below w.heap.size w W from fun W g => hb.trans (g.mono hb.size))
  have HC := Lib.hid (show ∀ W (s : Bs), Below V.heap.size V W → Calls Tryd.prog 20 #[.agg #[.string (txt x.nm), .string (txt x.own), .int .i64 x.ver, .slice f.A3 f.n3 f.a3, .slice f.A4 f.n4 f.a4, .slice f.A5 f.n5 f.a5], .string (txt s)] W fun e w' => e = .returned (.int .i64 (colI x.cols s)) ∧ Below W.heap.size W w' from fun W s g => refCol_any x f s W (HX.out.on g).all h3)
  have H := Lib.hid (show Row V V.heap.size A (L.map str) from fun k u hu => by
    obtain ⟨b, o, g1, g2, g3⟩ := hL k u hu
    exact ⟨b, o, g1, Nat.lt_of_lt_of_le g2 hb.size, (hb.cell (p := ⟨b, o + k, none⟩) g2).trans g3⟩)
  have HN := Lib.hid hn
  clear hx hb h3 hn hL
  go_enter Tryd.func15, Tryd.ntmps15
  go_wp2
  go_loopw [7, 6] (fun i u wr => ∃ (j : Nat) (v : Value), j ≤ n ∧ i = .int .i64 (j : Int) ∧ v = u ∧ Hid (wr.ownsRow V.heap.size tI 1 v j ((plN x.cols (L.take j)).map (Value.int .i64))) ∧ Hid (plOk x.cols (L.take j)) ∧ Hid (Below V.heap.size V wr)) (fun i _ _ => n + 1 - (intOf i).toNat)
  case atStart => exact ⟨0, _, Nat.zero_le _, rfl, rfl, Lib.hid ⟨rfl, .inl ⟨rfl, rfl⟩⟩, Lib.hid (fun v hv => by simp at hv), Lib.hid (Below.refl _ _)⟩
  case round =>
    obtain ⟨j, v, hj, rfl, rfl, HO, HT, HB⟩ := hrel
    by_cases hlt : j < n
    · --<
      have tl : decide ((j : Int) < (n : Int)) = true := decide_eq_true (by omega)
      have tl2 : decide (j < n) = true := decide_eq_true hlt
      obtain ⟨s, hs⟩ := some_at HN.out hlt
      obtain ⟨b, o, rfl, hb, g0⟩ := H.out j (str s) (by rw [List.getElem?_map, hs]; rfl)
      unfold str at g0
      have c9 : ∀ u : CW wr, u.val.cell? ⟨b, o + j, none⟩ = some (.string (txt s)) := fun u => ((Mem.on HB.out u.h).cell (p := ⟨b, o + j, none⟩) hb).trans g0
      have c0 : ∀ u : CW wr, u.val.cell? ⟨w.heap.size, 0, none⟩ = some (.string (txt x.nm)) := fun u => HX.out.at_ (Mem.on HB.out u.h) 0
      have c1 : ∀ u : CW wr, u.val.cell? ⟨w.heap.size, 1, none⟩ = some (.string (txt x.own)) := fun u => HX.out.at_ (Mem.on HB.out u.h) 1
      have c2 : ∀ u : CW wr, u.val.cell? ⟨w.heap.size, 2, none⟩ = some (.int .i64 x.ver) := fun u => HX.out.at_ (Mem.on HB.out u.h) 2
      have c3 : ∀ u : CW wr, u.val.cell? ⟨w.heap.size, 3, none⟩ = some (.slice f.A3 f.n3 f.a3) := fun u => HX.out.at_ (Mem.on HB.out u.h) 3
      have c4 : ∀ u : CW wr, u.val.cell? ⟨w.heap.size, 4, none⟩ = some (.slice f.A4 f.n4 f.a4) := fun u => HX.out.at_ (Mem.on HB.out u.h) 4
      have c5 : ∀ u : CW wr, u.val.cell? ⟨w.heap.size, 5, none⟩ = some (.slice f.A5 f.n5 f.a5) := fun u => HX.out.at_ (Mem.on HB.out u.h) 5
      have HS := Lib.hid hs
      obtain ⟨q, hq⟩ : ∃ q, colI x.cols s = q := ⟨_, rfl⟩
      have HQ := Lib.hid hq
      have HCC := Lib.hid (show ∀ u : CW wr, Calls Tryd.prog 20 #[.agg #[.string (txt x.nm), .string (txt x.own), .int .i64 x.ver, .slice f.A3 f.n3 f.a3, .slice f.A4 f.n4 f.a4, .slice f.A5 f.n5 f.a5], .string (txt s)] u.val fun e w' => e = .returned (.int .i64 q) ∧ Below u.val.heap.size u.val w' from fun u => hq ▸ HC.out u.val s (Mem.on HB.out u.h))
      clear hs hq hb g0
      go_upto_region 5 with fail
      try simp only [List.append_eq, List.cons_append, List.nil_append]
      refine wp_region_class (w₀ := wr) (Below.refl _ _).drew (by kernel_rfl) (by kernel_rfl) ?_
      repeat (go_big_quiet_step (first | (go_at_call 20; exact CW.calls (HCC.out _))))
      refine wpQuiet_nil ?_
      rintro _ ⟨u, rfl⟩
      have HU := Lib.hid u.h
      have HB3 := Lib.hid (Mem.on HB.out u.h)
      generalize u.val = W3 at HU HB3 ⊢
      clear c0 c1 c2 c3 c4 c5 c9
      by_cases hq : q < 0
      · have t1 : decide (q < 0) = true := decide_eq_true hq
        have HF := Lib.hid (pl_no (cols := x.cols) (l := L) fun g => by have h1 := g s (List.mem_of_getElem? HS.out); rw [HQ.out] at h1; omega)
        clear hq
        go_wp2
        go_ret2
        exact ⟨none, 0, 0, by rw [HF.out.2]; rfl, by rw [HF.out.1]; rfl, by rw [HF.out.1]; exact fun k u h => by simp at h, HE.out _ HB3.out⟩
      · have t1 : decide (q < 0) = false := decide_eq_false hq
        have HT2 := Lib.hid (show plOk x.cols (L.take (j + 1)) from take_all_on (C := fun s => 0 ≤ colI x.cols s) HS.out HT.out (by rw [HQ.out]; omega))
        have HP := Lib.hid (show (plN x.cols (L.take (j + 1))).map (Value.int .i64) = (plN x.cols (L.take j)).map (Value.int .i64) ++ [Value.int .i64 q] from by unfold plN; rw [List.take_add_one, HS.out, List.map_append, List.map_append, ← HQ.out]; rfl)
        have HO3 := Lib.hid (show W3.ownsRow V.heap.size tI 1 v j ((plN x.cols (L.take j)).map (Value.int .i64)) from HO.out.kept (row := none) ⟨HU.out.os, HU.out.tape, HU.out.output, HU.out.size, fun k hk _ => HU.out.block k hk⟩ (by cases hv : v.ownBlock with | none => exact .inl rfl | some k => exact .inr (by simp)))
        clear hq
        go_wp2_with (at_builtin; refine wp_one (x := .int .i64 q) elemI V.heap.size (.tmp 23) (.tmp 25) rfl rfl rfl HO3.out rfl rfl (by omega) (by omega) HB3.out.size ?_; intro v4 w4 g1 g2 g3; have HR := Lib.hid g1; have HB4 := Lib.hid (own_low HO3.out HB3.out g2); clear g1 g2 g3)
        go_roundw
        case rel => exact ⟨j + 1, _, by omega, by go_num, rfl, by rw [HP.out]; exact HR, HT2, HB4⟩
        case measure => simp [intOf]; omega
      -->
    · have tl : decide ((j : Int) < (n : Int)) = false := decide_eq_false (by omega)
      have tl2 : decide (j < n) = false := decide_eq_false hlt
      obtain rfl : j = n := by omega
      have hk := HO.out
      have ht := HT.out
      rw [List.take_of_length_le (by have := HN.out; omega)] at hk ht
      have HF := Lib.hid (pl_yes ht)
      obtain ⟨A4, c4, hv4⟩ : ∃ A c, v = .slice A j c := by
        rcases hk.2 with ⟨hv, h0⟩ | ⟨g, cap, cur, hv, _⟩
        · exact ⟨_, _, by rw [hv, h0]⟩
        · exact ⟨_, _, hv⟩
      subst hv4
      have HK := Lib.hid (Row.own hk)
      clear hk ht
      go_wp2
      go_ret2
      exact ⟨A4, j, c4, by rw [HF.out.2]; rfl, by rw [HF.out.1]; unfold plN; rw [List.length_map]; exact HN.out.symm, by rw [HF.out.1]; exact HK.out, HE.out _ HB.out⟩
end Go.Proofs.YtcblddpapehdeaaDoor.Tk
