/- A tree whose rows lie apart: each kid's rows in a range of blocks of its own, one range be A parameter's place, filled: eval.fill of a part that is a parameter. A tree's parameters filled in place: what a call of eval.fill leaves, and a loop over kids -/
import Derived.Test.YtbdippgamlknbaaGreatDoorKs31
import Derived.Test.YtbdippgamlknbaaGreatDoorKs32
import Derived.Test.YtbdippgamlknbaaGreatDoorKs19
import Derived.Test.YtbdippgamlknbaaGreatDoorKs21
namespace Go.Proofs.YtbdippgamlknbaaGreatDoor.Ep
open Go.RowKit Go.Proofs.YtbdippgamlknbaaGreatDoor.Mem Go.Proofs.YtbdippgamlknbaaGreatDoor.Right
set_option linter.unusedVariables false
mutual
/-- A tree's cells; its rows lie in blocks from lo on, below hi. -/
def RnN (w : World) : Nat → Nat → Ex → List Value → Prop
  | lo, hi, .mk k o vk vn vs nm kids, cs => ∃ A c g, cs = [.int .i64 k, .int .i64 o, .int .i64 vk, .int .i64 vn, .string (txt vs), .string (txt nm), .slice A kids.length c] ∧ kids.length ≤ c ∧ c ≤ maxLen ∧ (A = none → c = 0) ∧
      (kids ≠ [] → A = some ⟨g, 0, none⟩ ∧ lo ≤ g ∧ g < hi ∧ OpenB w g) ∧ RnK w g (g + 1) hi 0 kids
/-- Kids from the j-th on, in the row of block g; their own rows from lo on, below hi. -/
def RnK (w : World) (g : Nat) : Nat → Nat → Nat → List Ex → Prop
  | lo, hi, j, [] => True
  | lo, hi, j, y :: l => ∃ ds mid, ds.length = 7 ∧ (∀ i u, ds[i]? = some u → w.cell? ⟨g, j * 7 + i, none⟩ = some u) ∧ lo ≤ mid ∧ mid ≤ hi ∧ RnN w lo mid y ds ∧ RnK w g mid hi (j + 1) l
end
theorem rnN_mk (w : World) (lo hi : Nat) (k o vk vn : Int) (vs nm : List UInt8) (kids : List Ex) (cs : List Value) : RnN w lo hi (.mk k o vk vn vs nm kids) cs ↔ ∃ A c g, cs = [.int .i64 k, .int .i64 o, .int .i64 vk, .int .i64 vn, .string (txt vs), .string (txt nm), .slice A kids.length c] ∧ kids.length ≤ c ∧ c ≤ maxLen ∧ (A = none → c = 0) ∧
      (kids ≠ [] → A = some ⟨g, 0, none⟩ ∧ lo ≤ g ∧ g < hi ∧ OpenB w g) ∧ RnK w g (g + 1) hi 0 kids := by rw [RnN]
theorem rnK_nil (w : World) (g lo hi j : Nat) : RnK w g lo hi j [] := by rw [RnK]; trivial
theorem rnK_cons (w : World) (g lo hi j : Nat) (y : Ex) (l : List Ex) : RnK w g lo hi j (y :: l) ↔ ∃ ds mid, ds.length = 7 ∧ (∀ i u, ds[i]? = some u → w.cell? ⟨g, j * 7 + i, none⟩ = some u) ∧ lo ≤ mid ∧ mid ≤ hi ∧ RnN w lo mid y ds ∧ RnK w g mid hi (j + 1) l := by rw [RnK]
/-- A wider range. -/
theorem RnK.wide {w : World} {g : Nat} : ∀ {l : List Ex} {lo hi hi' j : Nat}, RnK w g lo hi j l → hi ≤ hi' → RnK w g lo hi' j l
  | [], _, _, _, _, _, _ => rnK_nil _ _ _ _ _
  | y :: l, lo, hi, hi', j, h, hh => by
    obtain ⟨ds, mid, h1, h2, h3, h4, h5, h6⟩ := (rnK_cons _ _ _ _ _ _ _).1 h
    exact (rnK_cons _ _ _ _ _ _ _).2 ⟨ds, mid, h1, h2, h3, by omega, h5, RnK.wide h6 hh⟩
theorem RnN.wide {w : World} {x : Ex} {cs : List Value} {lo lo' hi hi' : Nat} (h : RnN w lo hi x cs) (h1 : lo' ≤ lo) (h2 : hi ≤ hi') : RnN w lo' hi' x cs := by
  obtain ⟨k, o, vk, vn, vs, nm, kids⟩ := x
  obtain ⟨A, c, g, e, a, b, d, f, i⟩ := (rnN_mk _ _ _ _ _ _ _ _ _ _ _).1 h
  exact (rnN_mk _ _ _ _ _ _ _ _ _ _ _).2 ⟨A, c, g, e, a, b, d, fun hne => ⟨(f hne).1, by have := (f hne).2.1; omega, by have := (f hne).2.2.1; omega, (f hne).2.2.2⟩, i.wide h2⟩
/-- One kid more. -/
theorem RnK.snoc {w : World} {g : Nat} {y : Ex} {ds : List Value} (hl : ds.length = 7) : ∀ {l : List Ex} {lo mid hi j : Nat}, RnK w g lo mid j l → lo ≤ mid → mid ≤ hi → (∀ i u, ds[i]? = some u → w.cell? ⟨g, (j + l.length) * 7 + i, none⟩ = some u) → RnN w mid hi y ds → RnK w g lo hi j (l ++ [y])
  | [], lo, mid, hi, j, h, hlm, hmh, hc, hy => (rnK_cons _ _ _ _ _ _ _).2 ⟨ds, hi, hl, fun i u hu => by have := hc i u hu; rwa [List.length_nil, Nat.add_zero] at this, by omega, Nat.le_refl _, hy.wide hlm (Nat.le_refl _), rnK_nil _ _ _ _ _⟩
  | z :: l, lo, mid, hi, j, h, hlm, hmh, hc, hy => by
    obtain ⟨es, m, h1, h2, h3, h4, h5, h6⟩ := (rnK_cons _ _ _ _ _ _ _).1 h
    exact (rnK_cons _ _ _ _ _ _ _).2 ⟨es, m, h1, h2, h3, by omega, h5, RnK.snoc hl h6 h4 hmh (fun i u hu => by have := hc i u hu; rwa [List.length_cons, show (j + (l.length + 1)) = j + 1 + l.length by omega] at this) hy⟩
mutual
/-- What is not touched in its range stays. -/
theorem RnN.keep {w w' : World} : ∀ {x : Ex} {cs : List Value} {lo hi : Nat}, RnN w lo hi x cs → (∀ b, lo ≤ b → b < hi → OpenB w b → w'.heap[b]? = w.heap[b]?) → RnN w' lo hi x cs
  | .mk k o vk vn vs nm kids, cs, lo, hi, h, hk => by
    obtain ⟨A, c, g, e, a, b, d, f, i⟩ := (rnN_mk _ _ _ _ _ _ _ _ _ _ _).1 h
    by_cases hne : kids = []
    · subst hne
      exact (rnN_mk _ _ _ _ _ _ _ _ _ _ _).2 ⟨A, c, g, e, a, b, d, fun h => absurd rfl h, rnK_nil _ _ _ _ _⟩
    · obtain ⟨f1, f2, f3, f4⟩ := f hne
      have hg := hk g f2 f3 f4
      exact (rnN_mk _ _ _ _ _ _ _ _ _ _ _).2 ⟨A, c, g, e, a, b, d, fun _ => ⟨f1, f2, f3, by obtain ⟨cur, hc⟩ := f4; exact ⟨cur, hg.trans hc⟩⟩, RnK.keep i (fun i m _ _ _ => World.cell?_of_block hg) fun b h1 h2 h3 => hk b (by omega) h2 h3⟩
theorem RnK.keep {w w' : World} {g : Nat} : ∀ {l : List Ex} {lo hi j : Nat}, RnK w g lo hi j l → (∀ i m, j ≤ i → i < j + l.length → m < 7 → w'.cell? ⟨g, i * 7 + m, none⟩ = w.cell? ⟨g, i * 7 + m, none⟩) → (∀ b, lo ≤ b → b < hi → OpenB w b → w'.heap[b]? = w.heap[b]?) → RnK w' g lo hi j l
  | [], _, _, _, _, _, _ => rnK_nil _ _ _ _ _
  | y :: l, lo, hi, j, h, hg, hk => by
    obtain ⟨ds, mid, h1, h2, h3, h4, h5, h6⟩ := (rnK_cons _ _ _ _ _ _ _).1 h
    exact (rnK_cons _ _ _ _ _ _ _).2 ⟨ds, mid, h1, fun i u hu => (hg j i (Nat.le_refl _) (by rw [List.length_cons]; omega) (by have := (List.getElem?_eq_some_iff.1 hu).1; omega)).trans (h2 i u hu), h3, h4, RnN.keep h5 fun b a1 a2 a3 => hk b a1 (by omega) a3, RnK.keep h6 (fun i m b1 b2 b3 => hg i m (by omega) (by rw [List.length_cons]; omega) b3) fun b a1 a2 a3 => hk b (by omega) a2 a3⟩
end
/-- The first j kids are clones, their rows from behind g on, below m; the others are the old ones. -/
def MidR (n0 g : Nat) (l : List Ex) (j m : Nat) (w : World) : Prop :=
  (∃ cur, Cel w g tE cur ∧ l.length * 7 ≤ cur.size) ∧ (∀ (i : Nat) (y : Ex), l[i]? = some y → ∃ ds, ds.length = 7 ∧ (∀ q u, ds[q]? = some u → w.cell? ⟨g, i * 7 + q, none⟩ = some u) ∧ (j ≤ i → ExIn w (fun b => b < n0) y ds)) ∧
    RnK w g (g + 1) m 0 (l.take j) ∧ g + 1 ≤ m ∧ m ≤ w.heap.size
theorem open_same {w w' : World} {b : Nat} (h : OpenB w b) (hb : Below w.heap.size w w') : w'.heap[b]? = w.heap[b]? := by
  obtain ⟨cur, hc⟩ := h
  have h1 : w'.heap[b]? = _ := hc.below hb
  have h2 : w.heap[b]? = _ := hc
  exact h1.trans h2.symm
theorem MidR.below {n0 g j m : Nat} {l : List Ex} {w w' : World} (h : MidR n0 g l j m w) (hn : n0 ≤ w.heap.size) (hb : Below w.heap.size w w') : MidR n0 g l j m w' := by
  obtain ⟨⟨cur, hc, hs⟩, h2, h3, h4, h5⟩ := h
  refine ⟨⟨cur, hc.below hb, hs⟩, fun i y hy => ?_, RnK.keep h3 (fun i q _ _ _ => hb.cell hc.lt) (fun b _ _ ho => open_same ho hb), h4, Nat.le_trans h5 hb.size⟩
  obtain ⟨ds, hl, hcell, g4⟩ := h2 i y hy
  exact ⟨ds, hl, fun q u hu => (hb.cell (p := ⟨g, _, none⟩) hc.lt).trans (hcell q u hu), fun hi => ExIn.to (fun _ h => h) (fun p hp => hb.cell (by omega)) y ds (g4 hi)⟩
theorem MidR.put {n0 g j m m' : Nat} {l : List Ex} {w : World} {y : Ex} {v0 v1 v2 v3 v4 v5 v6 : Value} (h : MidR n0 g l j m w) (hg : n0 ≤ g) (hy : l[j]? = some y) (hm : m ≤ m') (hx : RnN w m' w.heap.size y [v0, v1, v2, v3, v4, v5, v6]) (hm2 : m' ≤ w.heap.size) :
    MidR n0 g l (j + 1) w.heap.size (put7 w g (j * 7) v0 v1 v2 v3 v4 v5 v6) := by
  obtain ⟨⟨cur, hc, hs⟩, h2, h3, h4, h5⟩ := h
  have hj := (List.getElem?_eq_some_iff.1 hy).1
  obtain ⟨cur', g1, g2, g3, g4⟩ := put7_cel (v0 := v0) (v1 := v1) (v2 := v2) (v3 := v3) (v4 := v4) (v5 := v5) (v6 := v6) (q := j * 7) hc (by omega)
  have hcell : ∀ p : Addr, p.block ≠ g → (put7 w g (j * 7) v0 v1 v2 v3 v4 v5 v6).cell? p = w.cell? p := fun p hp => World.cell?_of_block (put7_oth hp)
  have hother : ∀ i q, i ≠ j → q < 7 → (put7 w g (j * 7) v0 v1 v2 v3 v4 v5 v6).cell? ⟨g, i * 7 + q, none⟩ = w.cell? ⟨g, i * 7 + q, none⟩ := fun i q hi hq => by rw [g1.at_, g4 _ (by omega), ← hc.at_]
  refine ⟨⟨cur', g1, by omega⟩, fun i z hz => ?_, ?_, by omega, by rw [put7_size]; exact Nat.le_refl _⟩
  · by_cases hij : i = j
    · subst hij
      exact ⟨[v0, v1, v2, v3, v4, v5, v6], rfl, fun q u hu => by rw [g1.at_]; exact g3 q u hu, fun hi => by omega⟩
    · obtain ⟨ds, hl, hce, h4'⟩ := h2 i z hz
      exact ⟨ds, hl, fun q u hu => (hother i q hij (by have := (List.getElem?_eq_some_iff.1 hu).1; omega)).trans (hce q u hu), fun hi => ExIn.to (fun _ h => h) (fun p hp => hcell p (by omega)) z ds (h4' (by omega))⟩
  · have hlen : (l.take j).length = j := by rw [List.length_take]; omega
    rw [List.take_add_one, hy]
    refine RnK.snoc (ds := [v0, v1, v2, v3, v4, v5, v6]) rfl (mid := m') ?_ (by omega) hm2 (fun q u hu => by rw [hlen, Nat.zero_add, g1.at_]; exact g3 q u hu) ?_
    · exact (RnK.keep h3 (fun i q _ hi hq => hother i q (by omega) hq) fun b h1 _ ho => put7_oth (by omega)).wide hm
    · exact RnN.keep hx fun b h1 _ ho => put7_oth (by omega)
end Go.Proofs.YtbdippgamlknbaaGreatDoor.Ep
namespace Go.Proofs.YtbdippgamlknbaaGreatDoor.Eo
open Go.RowKit Go.Proofs.YtbdippgamlknbaaGreatDoor.Mem Go.Proofs.YtbdippgamlknbaaGreatDoor.Right Go.Proofs.YtbdippgamlknbaaGreatDoor.Lx Go.Proofs.YtbdippgamlknbaaGreatDoor.Ep Go.Proofs.YtbdippgamlknbaaGreatDoor.Ev
set_option linter.unusedVariables false
set_option linter.unusedSimpArgs false
/-- What a call of fill leaves where a parameter stood: w2 is the world ahead of the store. -/
def FilP (w : World) (g q : Nat) (v : Vl) (e : Ending) (w' : World) : Prop := e = .returned (.bool (Right.okV v.k v.n v.s.data.toList)) ∧ ∃ w2 k o vk vn vs nm A n c, Below w.heap.size w w2 ∧ ExIn w2 (fun b => w.heap.size ≤ b ∧ b < w2.heap.size) (litX (vv v)) [.int .i64 k, .int .i64 o, .int .i64 vk, .int .i64 vn, .string (txt vs), .string (txt nm), .slice A n c] ∧ Below (put7 w2 g q (.int .i64 k) (.int .i64 o) (.int .i64 vk) (.int .i64 vn) (.string (txt vs)) (.string (txt nm)) (.slice A n c)).heap.size (put7 w2 g q (.int .i64 k) (.int .i64 o) (.int .i64 vk) (.int .i64 vn) (.string (txt vs)) (.string (txt nm)) (.slice A n c)) w'
set_option maxRecDepth 100000 in
set_option maxHeartbeats 600000 in
theorem fill_par {w : World} {g q : Nat} {cur : Array Value} (o : Int) {A : Option Addr} {n c : Nat} {vs : List Vl} (hc : Cel w g 26 cur) (hq : q + 7 ≤ cur.size) (h0 : w.cell? ⟨g, q, none⟩ = some (.int .i64 3)) (h1 : w.cell? ⟨g, q + 1, none⟩ = some (.int .i64 o)) (hV : Vals w w.heap.size A vs) (hn : n = vs.length) (hm : n ≤ 1000000) (hb : ∀ v ∈ vs, (-9223372036854775808 ≤ v.n ∧ v.n ≤ 9223372036854775807) ∧ v.s.size ≤ maxLen) (v : Vl) (j : Nat) (ho : o = (j : Int) + 1) (hj : vs[j]? = some v) :
    Calls Tryz.prog 38 #[.pointer (some ⟨g, q, none⟩), .slice A n c] w (FilP w g q v) := by
  subst ho
  have hlt : j < vs.length := (List.getElem?_eq_some_iff.1 hj).1
  obtain ⟨b, p, v', rfl, hbb, hv, c0, c1, c2⟩ := hV.at_ (k := j) hlt
  obtain rfl : v = v' := Option.some.inj (hj.symm.trans hv)
  have hvb := hb v (List.mem_of_getElem? hj)
  have hjn : j < n := by omega
  obtain ⟨W1, hW1⟩ : ∃ W1, w.alloc (.cells #[.int .i64 v.k, .int .i64 v.n, .string v.s] 23) = W1 := ⟨_, rfl⟩
  have HB1 := Lib.hid (show Below w.heap.size w W1 from by rw [← hW1]; exact al (Below.refl _ _) _)
  have HX1 := Lib.hid (show Cel W1 w.heap.size 23 #[.int .i64 v.k, .int .i64 v.n, .string v.s] from by rw [← hW1]; exact Cel.new _ _ _ rfl)
  have HC1 := Lib.hid (show Cel W1 g 26 cur from hc.below HB1.out)
  have HWR := Lib.hid (show ∀ W, Calls Tryz.prog 72 #[.agg #[.int .i64 v.k, .int .i64 v.n, .string v.s]] W (TreE W (litX (vv v))) from fun W => wr_any (vv v) hvb.1.1 W)
  have HRT := Lib.hid (show ∀ W, _ from fun W => Right.right_any v.k v.n v.s W hvb.2)
  have HQ := Lib.hid hq
  have HL := Lib.hid (show g < w.heap.size from hc.lt)
  have x0 := HX1.out.at_ 0
  have x1 := HX1.out.at_ 1
  have x2 := HX1.out.at_ 2
  have e1 : (j : Int) + 1 - 1 = (j : Int) := by omega
  have hj2 : (j : Int) + 1 ≤ 9223372036854775807 := by omega
  clear hV hn hb hj hv hvb hlt hq hc
  go_enter Tryz.func38, Tryz.ntmps38
  go_wp2_with (fail)
  go_at_call 72
  with_reducible refine (HWR.out _).mono ?_
  rintro e2 w2 ⟨k', o', vk', vn', vs', nm', A', n', c', rfl, hin, hb2⟩
  have HB2 := Lib.hid (Mem.on HB1.out hb2)
  have HIN := Lib.hid (in_on hin (Below.refl _ _) HB1.out.size)
  have HC2 := Lib.hid (HC1.out.below hb2)
  have HX2 := Lib.hid (HX1.out.below hb2)
  clear hin hb2
  have f0 := HC2.out.open_ q
  have g0 := HC2.out.at_ q
  have f1 := HC2.out.open_ (q + 1)
  have g1 := HC2.out.at_ (q + 1)
  have f2 := HC2.out.open_ (q + 2)
  have g2 := HC2.out.at_ (q + 2)
  have f3 := HC2.out.open_ (q + 3)
  have g3 := HC2.out.at_ (q + 3)
  have f4 := HC2.out.open_ (q + 4)
  have g4 := HC2.out.at_ (q + 4)
  have f5 := HC2.out.open_ (q + 5)
  have g5 := HC2.out.at_ (q + 5)
  have f6 := HC2.out.open_ (q + 6)
  have g6 := HC2.out.at_ (q + 6)
  rw [Array.getElem?_eq_getElem (by have := HQ.out; omega)] at g0 g1 g2 g3 g4 g5 g6
  have HX3 := Lib.hid (show Cel (put7 w2 g q (.int .i64 k') (.int .i64 o') (.int .i64 vk') (.int .i64 vn') (.string (txt vs')) (.string (txt nm')) (.slice A' n' c')) w.heap.size 23 #[.int .i64 v.k, .int .i64 v.n, .string v.s] from Cel.put_other HX2.out (by have := HL.out; omega))
  have z0 := HX3.out.at_ 0
  have z1 := HX3.out.at_ 1
  have z2 := HX3.out.at_ 2
  unfold put7 at z0 z1 z2
  go_wp2_with (go_at_call 73; (with_reducible refine (HRT.out _).mono ?_); rintro e3 w3 ⟨rfl, hb3⟩; have HB3 := Lib.hid hb3; clear hb3)
  go_ret
  exact ⟨rfl, w2, k', o', vk', vn', vs', nm', A', n', c', HB2.out, HIN.out, by unfold put7; exact HB3.out⟩
end Go.Proofs.YtbdippgamlknbaaGreatDoor.Eo
namespace Go.Proofs.YtbdippgamlknbaaGreatDoor.Eo
open Go.RowKit Go.Proofs.YtbdippgamlknbaaGreatDoor.Mem Go.Proofs.YtbdippgamlknbaaGreatDoor.Right Go.Proofs.YtbdippgamlknbaaGreatDoor.Lx Go.Proofs.YtbdippgamlknbaaGreatDoor.Ep Go.Proofs.YtbdippgamlknbaaGreatDoor.Ev
set_option linter.unusedVariables false
set_option linter.unusedSimpArgs false
mutual
/-- Are all parameters that are used right? -/
def okU (ps : List Vv) : Ex → Bool
  | .mk k o vk vn vs nm kids => if k = 3 then Right.okV (ps.getD (o - 1).toNat nul).k (ps.getD (o - 1).toNat nul).n (ps.getD (o - 1).toNat nul).s else okUL ps kids
def okUL (ps : List Vv) : List Ex → Bool
  | [] => true
  | x :: l => okU ps x && okUL ps l
end
mutual
/-- Each parameter that is used is there. -/
def AtU (n : Nat) : Ex → Prop
  | .mk k o vk vn vs nm kids => (k = 3 → 1 ≤ o ∧ o ≤ (n : Int)) ∧ AtUL n kids
def AtUL (n : Nat) : List Ex → Prop
  | [] => True
  | x :: l => AtU n x ∧ AtUL n l
end
theorem atUL_iff {n : Nat} : ∀ {l : List Ex}, AtUL n l ↔ ∀ x ∈ l, AtU n x
  | [] => by rw [AtUL]; simp
  | x :: l => by rw [AtUL, atUL_iff]; simp
theorem atU_mk (n : Nat) (k o vk vn : Int) (vs nm : List UInt8) (kids : List Ex) : AtU n (.mk k o vk vn vs nm kids) ↔ (k = 3 → 1 ≤ o ∧ o ≤ (n : Int)) ∧ ∀ x ∈ kids, AtU n x := by rw [AtU, atUL_iff]
theorem okUL_iff {ps : List Vv} : ∀ {l : List Ex}, okUL ps l = true ↔ ∀ x ∈ l, okU ps x = true
  | [] => by rw [okUL]; simp
  | x :: l => by rw [okUL, Bool.and_eq_true, okUL_iff]; simp
theorem okU_par (ps : List Vv) (o vk vn : Int) (vs nm : List UInt8) (kids : List Ex) : okU ps (.mk 3 o vk vn vs nm kids) = Right.okV (ps.getD (o - 1).toNat nul).k (ps.getD (o - 1).toNat nul).n (ps.getD (o - 1).toNat nul).s := by rw [okU, if_pos rfl]
theorem okU_kids (ps : List Vv) {k : Int} (h : k ≠ 3) (o vk vn : Int) (vs nm : List UInt8) (kids : List Ex) : okU ps (.mk k o vk vn vs nm kids) = okUL ps kids := by rw [okU, if_neg h]
theorem okUL_no {ps : List Vv} {l : List Ex} {x : Ex} (hx : x ∈ l) (h : okU ps x = false) : okUL ps l = false := by
  cases c : okUL ps l with
  | false => rfl
  | true => rw [okUL_iff.1 c x hx] at h; cases h
theorem fill_par' (ps : List Vv) (o vk vn : Int) (vs nm : List UInt8) (kids : List Ex) : fill ps (.mk 3 o vk vn vs nm kids) = litX (ps.getD (o - 1).toNat nul) := by rw [fill, if_pos rfl]
theorem fill_kids (ps : List Vv) {k : Int} (h : k ≠ 3) (o vk vn : Int) (vs nm : List UInt8) (kids : List Ex) : fill ps (.mk k o vk vn vs nm kids) = .mk k o vk vn vs nm (kids.map (fill ps)) := by rw [fill, if_neg h, fillL_map]
/-- What else stays: all below B; of older blocks those that are not g and not from lo to hi; of block g all but seven cells at q. -/
def Lft (B g q lo hi : Nat) (w w' : World) : Prop :=
  Below B w w' ∧ (∀ b, b < w.heap.size → b ≠ g → (b < lo ∨ hi ≤ b) → w'.heap[b]? = w.heap[b]?) ∧ ∀ cur, Cel w g tE cur → ∃ cur', Cel w' g tE cur' ∧ cur'.size = cur.size ∧ ∀ m, (m < q ∨ q + 7 ≤ m) → cur'[m]? = cur[m]?
/-- What a call of fill leaves. -/
def FilC (ps : List Vv) (B g q lo hi : Nat) (x : Ex) (w : World) (e : Ending) (w' : World) : Prop :=
  e = .returned (.bool (okU ps x)) ∧ Lft B g q lo hi w w' ∧
    (okU ps x = true → ∃ ds, ds.length = 7 ∧ (∀ i u, ds[i]? = some u → w'.cell? ⟨g, q + i, none⟩ = some u) ∧ ExIn w' (fun b => lo ≤ b ∧ b < hi ∨ w.heap.size ≤ b ∧ b < w'.heap.size) (fill ps x) ds)
theorem Lft.cell {B g q lo hi : Nat} {w w' : World} (h : Lft B g q lo hi w w') {cur : Array Value} (hc : Cel w g tE cur) {m : Nat} (hm : m < q ∨ q + 7 ≤ m) : w'.cell? ⟨g, m, none⟩ = w.cell? ⟨g, m, none⟩ := by
  obtain ⟨cur', h1, h2, h3⟩ := h.2.2 cur hc
  rw [h1.at_, hc.at_, h3 m hm]
theorem cel_room {w : World} {g m : Nat} {t : TypeId} {cur : Array Value} {u : Value} (hc : Cel w g t cur) (h : w.cell? ⟨g, m, none⟩ = some u) : m < cur.size := by
  rw [hc.at_] at h
  exact (Array.getElem?_eq_some_iff.1 h).1
/-- The first j kids are filled; the others are as they were, in blocks from m on. -/
def Prg (ps : List Vv) (n0 G hi : Nat) (kids : List Ex) (j : Nat) (w : World) : Prop :=
  ∃ m, G + 1 ≤ m ∧ m ≤ hi ∧ OpenB w G ∧ RnK w G m hi j (kids.drop j) ∧ ∀ (i : Nat) (y : Ex), i < j → kids[i]? = some y → okU ps y = true ∧
    ∃ ds, ds.length = 7 ∧ (∀ r u, ds[r]? = some u → w.cell? ⟨G, i * 7 + r, none⟩ = some u) ∧ ExIn w (fun b => G < b ∧ b < m ∨ n0 ≤ b ∧ b < w.heap.size) (fill ps y) ds
theorem Prg.start {ps : List Vv} {n0 G hi : Nat} {kids : List Ex} {w : World} (h : RnK w G (G + 1) hi 0 kids) (hG : G < hi) (ho : OpenB w G) : Prg ps n0 G hi kids 0 w :=
  ⟨G + 1, Nat.le_refl _, hG, ho, h, fun i y hi => by omega⟩
/-- The next kid's own range and cells. -/
theorem Prg.next {ps : List Vv} {n0 G hi j : Nat} {kids : List Ex} {w : World} {y : Ex} (h : Prg ps n0 G hi kids j w) (hy : kids[j]? = some y) :
    ∃ m mid ds cur, G + 1 ≤ m ∧ m ≤ mid ∧ mid ≤ hi ∧ ds.length = 7 ∧ Cel w G tE cur ∧ j * 7 + 7 ≤ cur.size ∧ (∀ i u, ds[i]? = some u → w.cell? ⟨G, j * 7 + i, none⟩ = some u) ∧ RnN w m mid y ds ∧
      ∀ (B : Nat) (e : Ending) (w' : World), hi ≤ w.heap.size → n0 ≤ w.heap.size → hi ≤ n0 → FilC ps B G (j * 7) m mid y w e w' → okU ps y = true → Prg ps n0 G hi kids (j + 1) w' := by
  obtain ⟨m, h1, h2, ⟨cur, hcur⟩, h3, h4⟩ := h
  have hj := (List.getElem?_eq_some_iff.1 hy).1
  have hd : kids.drop j = y :: kids.drop (j + 1) := by
    rw [List.drop_eq_getElem_cons hj]
    congr 1
    rw [List.getElem?_eq_getElem hj] at hy
    exact Option.some.inj hy
  rw [hd] at h3
  obtain ⟨ds, mid, g1, g2, g3, g4, g5, g6⟩ := (rnK_cons _ _ _ _ _ _ _).1 h3
  have h6 : ∃ u, ds[6]? = some u := ⟨_, List.getElem?_eq_getElem (by omega)⟩
  obtain ⟨u6, h6⟩ := h6
  have hroom := cel_room hcur (g2 6 u6 h6)
  refine ⟨m, mid, ds, cur, h1, g3, g4, g1, hcur, by omega, g2, g5, ?_⟩
  intro B e w' k1 k2 k3 hf hok
  obtain ⟨-, hL, hR⟩ := hf
  have hsz : w.heap.size ≤ w'.heap.size := hL.1.size
  obtain ⟨cur', c1, c2, c3⟩ := hL.2.2 cur hcur
  refine ⟨mid, by omega, g4, ⟨cur', c1⟩, RnK.keep g6 (fun i r hi1 hi2 hr => hL.cell hcur (.inr (by omega))) (fun b b1 b2 b3 => hL.2.1 b b3.lt (by omega) (.inr b1)), fun i z hi1 hz => ?_⟩
  by_cases hij : i = j
  · subst hij
    rw [hy] at hz
    injection hz with hz
    subst hz
    obtain ⟨es, e1, e2, e3⟩ := hR hok
    exact ⟨hok, es, e1, e2, e3.more fun b hb => by omega⟩
  · obtain ⟨ok, es, e1, e2, e3⟩ := h4 i z (by omega) hz
    refine ⟨ok, es, e1, fun r u hu => (hL.cell hcur (.inl ?_)).trans (e2 r u hu), ExIn.to (fun b hb => by omega) (fun p hp => World.cell?_of_block (hL.2.1 _ (by have := hcur.lt; omega) (by have := hcur.lt; omega) (by omega))) _ _ e3⟩
    have := (List.getElem?_eq_some_iff.1 hu).1
    omega
/-- All kids are filled. -/
theorem Prg.done {ps : List Vv} {n0 G hi : Nat} {kids : List Ex} {w : World} (h : Prg ps n0 G hi kids kids.length w) : okUL ps kids = true ∧ KidsIn w (fun b => G ≤ b ∧ b < hi ∨ n0 ≤ b ∧ b < w.heap.size) (some ⟨G, 0, none⟩) 0 (kids.map (fill ps)) := by
  obtain ⟨m, h1, h2, ho, h3, h4⟩ := h
  refine ⟨okUL_iff.2 fun x hx => ?_, KidsIn.of fun j y hy => ?_⟩
  · obtain ⟨i, hi⟩ := List.getElem?_of_mem hx
    exact (h4 i x (List.getElem?_eq_some_iff.1 hi).1 hi).1
  · rw [List.getElem?_map] at hy
    obtain ⟨z, hz, rfl⟩ := Option.map_eq_some_iff.1 hy
    obtain ⟨-, ds, d1, d2, d3⟩ := h4 j z (List.getElem?_eq_some_iff.1 hz).1 hz
    refine ⟨G, 0, ds, rfl, .inl ⟨Nat.le_refl _, by omega⟩, d1, fun r u hu => ?_, d3.more fun b hb => by omega⟩
    rw [show 0 + (0 + j) * 7 + r = j * 7 + r by omega]
    exact d2 r u hu
/-- What else stays on the way over kids: all below B; of older blocks those that are not from lo to hi. -/
def Lf0 (B lo hi : Nat) (w w' : World) : Prop := Below B w w' ∧ ∀ b, b < w.heap.size → (b < lo ∨ hi ≤ b) → w'.heap[b]? = w.heap[b]?
theorem Lf0.refl (B lo hi : Nat) (w : World) : Lf0 B lo hi w w := ⟨Below.refl _ _, fun _ _ _ => rfl⟩
theorem Lf0.lft {B g q lo hi : Nat} {w w' : World} (h : Lf0 B lo hi w w') (hg : g < lo ∨ hi ≤ g) : Lft B g q lo hi w w' :=
  ⟨h.1, fun b b1 _ b3 => h.2 b b1 b3, fun cur hc => ⟨cur, (h.2 g hc.lt hg).trans hc, rfl, fun _ _ => rfl⟩⟩
theorem Lf0.cel {B g lo hi : Nat} {w w' : World} {t : TypeId} {cur : Array Value} (h : Lf0 B lo hi w w') (hg : g < lo ∨ hi ≤ g) (hc : Cel w g t cur) : Cel w' g t cur := (h.2 g hc.lt hg).trans hc
/-- What a kid's call leaves is left for the whole. -/
theorem Lf0.kid {B lo hi G q m mid : Nat} {w0 w w' : World} (h : Lf0 B lo hi w0 w) (h' : Lft B G q m mid w w') (hG : lo ≤ G ∧ G < hi) (hm : lo ≤ m) (hmid : mid ≤ hi) : Lf0 B lo hi w0 w' :=
  ⟨h.1.trans h'.1, fun b b1 b3 => (h'.2.1 b (Nat.lt_of_lt_of_le b1 h.1.size) (by omega) (by omega)).trans (h.2 b b1 b3)⟩
/-- A call that leaves all older blocks. -/
theorem Lft.on {B g q lo hi : Nat} {w0 w w' : World} (h : Lft B g q lo hi w0 w) (hb : Below w.heap.size w w') (hB : B ≤ w.heap.size) : Lft B g q lo hi w0 w' := by
  have hn := h.1.size
  refine ⟨h.1.trans (hb.mono hB), fun b b1 b2 b3 => (hb.block b (by omega)).trans (h.2.1 b b1 b2 b3), fun cur hc => ?_⟩
  obtain ⟨cur', c1, c2, c3⟩ := h.2.2 cur hc
  exact ⟨cur', c1.below hb, c2, c3⟩
/-- A parameter's place, filled. -/
theorem Lft.put {B g q lo hi : Nat} {w w2 : World} {v0 v1 v2 v3 v4 v5 v6 : Value} (hb : Below w.heap.size w w2) (hB : B ≤ g) (hg : g < w.heap.size) {cur0 : Array Value} (hc0 : Cel w g tE cur0) (hq : q + 7 ≤ cur0.size) : Lft B g q lo hi w (put7 w2 g q v0 v1 v2 v3 v4 v5 v6) := by
  refine ⟨put7_below (hb.mono (by omega)) hB, fun b b1 b2 b3 => (put7_oth b2).trans (hb.block b b1), fun cur hc => ?_⟩
  have hc' : Cel w g tE cur0 := hc0
  have he : cur = cur0 := by
    have h1 : w.heap[g]? = _ := hc
    have h2 : w.heap[g]? = _ := hc0
    rw [h1] at h2
    injection h2 with h2
    injection h2
  subst he
  obtain ⟨cur', c1, c2, -, c4⟩ := put7_cel (v0 := v0) (v1 := v1) (v2 := v2) (v3 := v3) (v4 := v4) (v5 := v5) (v6 := v6) (hc.below hb) hq
  exact ⟨cur', c1, c2, c4⟩
end Go.Proofs.YtbdippgamlknbaaGreatDoor.Eo
