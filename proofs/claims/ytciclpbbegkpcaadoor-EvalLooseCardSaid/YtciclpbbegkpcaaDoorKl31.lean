/- Types of all kids of a part: the program's call. -/
import Derived.Deep.LoopGhost
import Derived.Test.YtciclpbbegkpcaaDoorKl30
import Derived.Test.YtciclpbbegkpcaaDoorKl05
namespace Go.Proofs.YtciclpbbegkpcaaDoor.Ev
open Go.RowKit Go.Proofs.YtciclpbbegkpcaaDoor.Mem Go.Proofs.YtciclpbbegkpcaaDoor.Right Go.Proofs.YtciclpbbegkpcaaDoor.Lx Go.Proofs.YtciclpbbegkpcaaDoor.Ep
set_option linter.unusedVariables false
abbrev tI : TypeId := 3
abbrev tIs : TypeId := 49
theorem elemI : Elem Tryd.prog tIs tI 8 := Elem.of (z := .int .i64 0) Tryd.underlying49 (by kernel_rfl) rfl
set_option maxHeartbeats 400000 in
/-- Of a part and the first one: do they not agree? -/
theorem of1_any {w : World} {b : Nat} {t : TypeId} {A : Option Addr} {n c : Nat} {xs : List Int} {a x : Int} (hb : Cel w b t #[.slice A n c]) (h : Il w w.heap.size A n xs) (h0 : xs[0]? = some a) :
    Calls Tryd.prog 67 #[.int .i64 x, .pointer (some ⟨b, 0, none⟩)] w fun e w' => e = .returned (.bool (!agr [a, x])) ∧ Below w.heap.size w w' := by
  have c0 := hb.at_ 0
  have hn : 0 < n := by have := (List.getElem?_eq_some_iff.1 h0).1; have := h.2; omega
  obtain ⟨g, o, x', rfl, hg, hx, hc⟩ := h.1.int (k := 0) (by have := h.2; omega)
  obtain rfl : x' = a := Option.some.inj (hx.symm.trans h0)
  rw [Nat.add_zero] at hc
  have HA := Lib.hid (show Calls Tryd.prog 65 #[.slice (some ⟨w.heap.size, 0, none⟩) 2 2] (w.alloc (.cells #[.int .i64 x', .int .i64 x] tI)) fun e w' => e = .returned (.bool (agr [x', x])) ∧ Below w.heap.size w w' from by
    refine (agree_any (B := w.heap.size + 1) (n := 2) (xs := [x', x]) (c := 2) ⟨fun k u hu => ⟨w.heap.size, 0, rfl, Nat.lt_succ_self _, ?_⟩, rfl⟩ (by simp) (by omega)).mono fun e w' g => ⟨g.1, (al (Below.refl _ _) _).trans (g.2.mono (by simp))⟩
    rw [(Cel.new w tI #[.int .i64 x', .int .i64 x] rfl).at_, Nat.zero_add]
    simpa using hu)
  clear hb h h0 hx
  go_enter Tryd.func67, Tryd.ntmps67
  go_wp2_with (go_at_call 65; (with_reducible refine HA.out.mono ?_); rintro e' w1 ⟨rfl, hb1⟩; have HB := Lib.hid hb1; clear hb1)
  go_ret
  exact ⟨rfl, HB.out⟩
/-- What a call leaves that finds a type. -/
def OfE (w : World) (V : Int × Int) (e : Ending) (w' : World) : Prop := e = .returned (.tuple #[.int .i64 V.1, .int .i64 V.2]) ∧ Below w.heap.size w w'
/-- What a call leaves that finds all. -/
def AllE (w : World) (R : Except Int (List Int)) (e : Ending) (w' : World) : Prop := Below w.heap.size w w' ∧ match R with
  | .error f => e = .returned (.tuple #[.slice none 0 0, .int .i64 f])
  | .ok l => ∃ v, e = .returned (.tuple #[v, .int .i64 0]) ∧ w'.ownsRow w.heap.size tI 1 v l.length (l.map (.int .i64))
def OfC (e : Ex) : Prop := ∀ (cs : List Value) (w : World) (A1 : Option Addr) (n1 c1 : Nat) (A2 : Option Addr) (n2 c2 : Nat) (cols params : List Int), Giv w A1 n1 cols A2 n2 params → ExAt w w.heap.size e cs → Rs true e →
  Calls Tryd.prog 36 #[givV A1 n1 c1 A2 n2 c2, .agg cs.toArray] w (OfE w (find cols params e))
def onto (l : List Int) : Except Int (List Int) → Except Int (List Int)
  | .error f => .error f
  | .ok r => .ok (l ++ r)
section
variable {cols params : List Int}
theorem findA_nil : findL cols params [] = .ok [] := by rw [findL]
theorem findA_cons (x : Ex) (r : List Ex) : findL cols params (x :: r) = if (find cols params x).2 ≠ 0 then .error (find cols params x).2 else onto [(find cols params x).1] (findL cols params r) := by
  rw [findL]
  split
  · rfl
  · cases findL cols params r <;> rfl
theorem onto_onto (a b : List Int) (R : Except Int (List Int)) : onto a (onto b R) = onto (a ++ b) R := by
  cases R with
  | error => rfl
  | ok r => show Except.ok (a ++ (b ++ r)) = Except.ok (a ++ b ++ r); rw [List.append_assoc]
end
theorem grown_low {w0 w w' : World} {r : Option Nat} (hb : Below w0.heap.size w0 w) (h : w.grownBy w' r) (hr : ∀ b, r = some b → w0.heap.size ≤ b) : Below w0.heap.size w0 w' :=
  hb.trans ⟨h.os, h.tape, h.output, h.size, fun k hk => h.block k (Nat.lt_of_lt_of_le hk hb.size) (fun e => by have := hr k e.symm; omega)⟩
theorem own_low {w : World} {base : Nat} {e : TypeId} {v : Value} {n k : Nat} {xs : List Value} (h : w.ownsRow base e k v n xs) : ∀ b, v.ownBlock = some b → base ≤ b := by
  intro b hb
  rcases h.2 with ⟨rfl, _⟩ | ⟨g, cap, cur, rfl, hg, _⟩
  · cases hb
  · have : g = b := Option.some.inj hb
    omega
theorem own_keep {w w' : World} {base : Nat} {e : TypeId} {v : Value} {n k : Nat} {xs : List Value} (h : w.ownsRow base e k v n xs) (hb : Below w.heap.size w w') : w'.ownsRow base e k v n xs := h.kept (row := none) (grown_below hb) (by cases hv : v.ownBlock <;> simp)
theorem own_mono {w : World} {base base' : Nat} {e : TypeId} {v : Value} {n k : Nat} {xs : List Value} (h : w.ownsRow base e k v n xs) (hb : base' ≤ base) : w.ownsRow base' e k v n xs := by
  refine ⟨h.1, h.2.imp id ?_⟩
  rintro ⟨g, cap, cur, e, hg, r⟩
  exact ⟨g, cap, cur, e, Nat.le_trans hb hg, r⟩
theorem below_of_none {w w' : World} (h : w.grownBy w' none) : Below w.heap.size w w' := ⟨h.os, h.tape, h.output, h.size, fun k hk => h.block k hk (fun e => by cases e)⟩
set_option maxRecDepth 100000 in
set_option maxHeartbeats 2000000 in
theorem all_any {w : World} {A1 A2 : Option Addr} {n1 c1 n2 c2 : Nat} {cols params : List Int} (hg : Giv w A1 n1 cols A2 n2 params) {A : Option Addr} {n c : Nat} {kids : List Ex} (hk : KidsIn w (fun b => b < w.heap.size) A 0 kids) (hn : n = kids.length) (hm : n ≤ 1000) (hr : ∀ x ∈ kids, Rs true x) (ih : ∀ x ∈ kids, OfC x) :
    Calls Tryd.prog 61 #[givV A1 n1 c1 A2 n2 c2, .slice A n c] w (AllE w (findL cols params kids)) := by
  obtain ⟨V, hV⟩ : ∃ V, w.alloc (.cells #[.slice A1 n1 c1, .slice A2 n2 c2] 82) = V := ⟨_, rfl⟩
  have HBV := Lib.hid (show Below w.heap.size w V from hV ▸ al (Below.refl _ _) _)
  have HCV := Lib.hid (show Cel V w.heap.size 82 #[.slice A1 n1 c1, .slice A2 n2 c2] from hV ▸ Cel.new w _ _ rfl)
  have HI := Lib.hid (show ∀ (j : Nat) (x : Ex) (W : World) (k o vk vn : Int) (vs nm : List UInt8) (A' : Option Addr) (n' c' : Nat), kids[j]? = some x → Below w.heap.size w W → ExIn w (fun b => b < w.heap.size) x [.int .i64 k, .int .i64 o, .int .i64 vk, .int .i64 vn, .string (txt vs), .string (txt nm), .slice A' n' c'] →
      Calls Tryd.prog 36 #[givV A1 n1 c1 A2 n2 c2, exV k o vk vn (txt vs) (txt nm) A' n' c'] W (OfE W (find cols params x)) from
    fun j x W k o vk vn vs nm A' n' c' hx hW hin => ih x (kid_mem hx) _ W A1 n1 c1 A2 n2 c2 cols params (hg.below hW) (ExAt.on hin hW) (hr x (kid_mem hx)))
  have HK := Lib.hid hk
  have HN := Lib.hid hn
  have e1 : IntKind.i64.wrap ((n : Int) + 1) = (n : Int) + 1 := IntWalk.i64_in _ (by omega)
  clear hg hk hr ih hn
  go_enter Tryd.func61, Tryd.ntmps61
  obtain ⟨ii, z, he1, he2, he3, he4, he5, he6⟩ := elemI
  go_wp2_with (refine wpList_make_own _ rfl _ _ _ rfl V.heap.size tI ii z 1 he1 he2 he3 he4 _ _ _ (n + 1) rfl rfl (by omega) (by rw [he5]; omega) (by unfold maxLen; omega) (by first | exact Nat.le_refl _ | (rw [hV]; exact Nat.le_refl _)) ?_; intro w1 g1 g2; rw [hV] at *; have HO1 := Lib.hid g1; have HG1 := Lib.hid g2; clear g1 g2)
  go_loopw [6, 17] (fun v i wr => ∃ (l : List Int) (B' : Option Addr) (c' : Nat), v = .slice B' l.length c' ∧ l.length ≤ n ∧ i = .int .i64 (l.length : Int) ∧ Hid (Below V.heap.size V wr ∧ wr.ownsRow V.heap.size tI 1 (.slice B' l.length c') l.length (l.map (.int .i64)) ∧ findL cols params kids = onto l (findL cols params (kids.drop l.length)))) (fun _ i _ => n + 1 - (intOf i).toNat)
  case atStart => exact ⟨[], _, _, rfl, Nat.zero_le _, rfl, Lib.hid ⟨below_of_none HG1.out, HO1.out, by
    rw [List.length_nil, List.drop_zero]
    cases findL cols params kids <;> rfl⟩⟩
  case round =>
    obtain ⟨l, B', c', rfl, hl, rfl, HL⟩ := hrel
    have HBw := Lib.hid (HBV.out.trans (HL.out.1.mono HBV.out.size))
    have d0 := fun o => ((HCV.out.below HL.out.1).alloc o).at_ 0
    have d1 := fun o => ((HCV.out.below HL.out.1).alloc o).at_ 1
    by_cases hlt : l.length < n
    · obtain ⟨x, hx⟩ := kid_some (l := kids) (j := l.length) (by have := HN.out; omega)
      obtain ⟨k', o', vk', vn', vs', nm', ks', A', n', c2', b, p, e, rfl, hb, hn', q0, q1, q2, q3, q4, q5, q6, hin⟩ := kid_at HK.out hx
      have HX := Lib.hid (show findL cols params kids = onto l (if (find cols params x).2 ≠ 0 then .error (find cols params x).2 else onto [(find cols params x).1] (findL cols params (kids.drop (l.length + 1)))) from by
        rw [HL.out.2.2, drop_kid hx, findA_cons])
      have HC := Lib.hid (show ∀ W, Below w.heap.size w W → _ from fun W hW => HI.out l.length x W k' o' vk' vn' vs' nm' A' n' c2' hx hW hin)
      have q0 := (HBw.out.cell hb).trans q0
      have q1 := (HBw.out.cell hb).trans q1
      have q2 := (HBw.out.cell hb).trans q2
      have q3 := (HBw.out.cell hb).trans q3
      have q4 := (HBw.out.cell hb).trans q4
      have q5 := (HBw.out.cell hb).trans q5
      have q6 := (HBw.out.cell hb).trans q6
      have tl : decide ((l.length : Int) < (n : Int)) = true := decide_eq_true (by omega)
      obtain ⟨⟨t, f⟩, hV⟩ : ∃ V, find cols params x = V := ⟨_, rfl⟩
      rw [hV] at HX HC
      clear hin hn' e hx hV
      have HBa := Lib.hid (al HBw.out (.cells #[.int .i64 k', .int .i64 o', .int .i64 vk', .int .i64 vn', .string (txt vs'), .string (txt nm'), .slice A' n' c2'] 38))
      by_cases hf : f = 0
      · subst hf
        have HX2 := Lib.hid (show findL cols params kids = onto (l ++ [t]) (findL cols params (kids.drop (l.length + 1))) from by rw [HX.out, if_neg (by simp), onto_onto])
        go_wp2_with (first | (go_at_call 36; (with_reducible refine (HC.out _ HBa.out).mono ?_); rintro e' w3 ⟨rfl, hb3⟩; have HB3 := Lib.hid hb3; clear hb3; have HO3 := Lib.hid (own_keep (HL.out.2.1.alloc (.cells #[.int .i64 k', .int .i64 o', .int .i64 vk', .int .i64 vn', .string (txt vs'), .string (txt nm'), .slice A' n' c2'] 38)) HB3.out)) | (at_builtin; refine wp_one elemI V.heap.size (.tmp 30) (.tmp 32) rfl rfl rfl HO3.out rfl rfl (by omega) (by omega) (by have := HB3.out.size; have := HL.out.1.size; simp at *; omega) ?_; intro v' w4 g1 g2 g3; obtain ⟨A4, c4, rfl, -, -⟩ := Row.form g1; have HO4 := Lib.hid g1; have HG4 := Lib.hid g2; clear g1 g2 g3))
        go_roundw
        case rel =>
          refine ⟨l ++ [t], A4, c4, by rw [List.length_append]; rfl, by rw [List.length_append]; show l.length + 1 ≤ n; omega, by rw [List.length_append]; go_num, Lib.hid ⟨?_, ?_, ?_⟩⟩
          · have hb5 := Mem.on (al HL.out.1 _) HB3.out
            exact grown_low (hb5.trans ((al (Below.refl _ _) _).mono hb5.size)) HG4.out (fun b hb => own_low HO3.out b hb)
          · have := HO4.out
            rw [List.length_append, List.map_append]
            exact this
          · rw [List.length_append]
            exact HX2.out
        case measure => simp [intOf]; omega
      · have tf : (f != 0) = true := bne_yes hf
        have HX2 := Lib.hid (show findL cols params kids = .error f from by rw [HX.out, if_pos hf]; rfl)
        clear hf
        go_wp2_with (go_at_call 36; (with_reducible refine (HC.out _ HBa.out).mono ?_); rintro e' w3 ⟨rfl, hb3⟩; have HB3 := Lib.hid (Mem.on HBa.out hb3); clear hb3)
        go_ret2
        rw [HX2.out]
        exact ⟨HB3.out, rfl⟩
    · have tl : decide ((l.length : Int) < (n : Int)) = false := decide_eq_false (by omega)
      have HX3 := Lib.hid (show findL cols params kids = .ok l from by
        rw [HL.out.2.2, List.drop_eq_nil_of_le (by have := HN.out; omega), findA_nil]
        show Except.ok (l ++ []) = _
        rw [List.append_nil])
      go_wp2
      go_ret2
      rw [HX3.out]
      exact ⟨HBw.out, _, rfl, own_mono HL.out.2.1 HBV.out.size⟩
end Go.Proofs.YtciclpbbegkpcaaDoor.Ev
