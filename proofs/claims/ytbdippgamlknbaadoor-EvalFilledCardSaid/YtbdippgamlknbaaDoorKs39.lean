/- A tree whose rows lie apart: each kid's rows in a range of blocks of its own, one range be A parameter's place, filled: eval.fill of a part that is a parameter. -/
import Derived.Test.YtbdippgamlknbaaDoorKs37
import Derived.Test.YtbdippgamlknbaaDoorKs38
import Derived.Test.YtbdippgamlknbaaDoorKs24
namespace Go.Proofs.YtbdippgamlknbaaDoor.Ep
open Go.RowKit Go.Proofs.YtbdippgamlknbaaDoor.Mem Go.Proofs.YtbdippgamlknbaaDoor.Right
set_option linter.unusedVariables false
mutual
/-- A tree's cells; its rows lie in blocks from lo on, below hi. -/
def RnN (w : World) : Nat → Nat → Ex → List Value → Prop
  | lo, hi, .mk k o vk vn vs nm kids, cs => ∃ A c g, cs = [.int .i64 k, .int .i64 o, .int .i64 vk, .int .i64 vn, .string (txt vs), .string (txt nm), .slice A kids.length c] ∧ kids.length ≤ c ∧ c ≤ maxLen ∧ (A = none → c = 0) ∧
      (kids ≠ [] → A = some ⟨g, 0, none⟩ ∧ lo ≤ g ∧ g < hi ∧ OpenB w g) ∧ RnK w g (g + 1) hi 0 kids
/-- Kids from the j-th on, in the row of block g; their own rows from lo on, below hi. -/
def RnK (w : World) (g : Nat) : Nat → Nat → Nat → List Ex → Prop
  | lo, hi, j, [] => True
  | lo, hi, j, y :: l => ∃ ds mid, ds.length = 7 ∧ (∀ i u, ds[i]? = some u → w.cell? ⟨g, j * 7 + i, none⟩ = some u) ∧ lo ≤ mid ∧ mid ≤ hi ∧ RnN w lo mid y ds ∧ RnK w g mid hi (j + 1) l
end
theorem rnN_mk (w : World) (lo hi : Nat) (k o vk vn : Int) (vs nm : List UInt8) (kids : List Ex) (cs : List Value) : RnN w lo hi (.mk k o vk vn vs nm kids) cs ↔ ∃ A c g, cs = [.int .i64 k, .int .i64 o, .int .i64 vk, .int .i64 vn, .string (txt vs), .string (txt nm), .slice A kids.length c] ∧ kids.length ≤ c ∧ c ≤ maxLen ∧ (A = none → c = 0) ∧
      (kids ≠ [] → A = some ⟨g, 0, none⟩ ∧ lo ≤ g ∧ g < hi ∧ OpenB w g) ∧ RnK w g (g + 1) hi 0 kids := by rw [RnN]
theorem rnK_nil (w : World) (g lo hi j : Nat) : RnK w g lo hi j [] := by rw [RnK]; trivial
theorem rnK_cons (w : World) (g lo hi j : Nat) (y : Ex) (l : List Ex) : RnK w g lo hi j (y :: l) ↔ ∃ ds mid, ds.length = 7 ∧ (∀ i u, ds[i]? = some u → w.cell? ⟨g, j * 7 + i, none⟩ = some u) ∧ lo ≤ mid ∧ mid ≤ hi ∧ RnN w lo mid y ds ∧ RnK w g mid hi (j + 1) l := by rw [RnK]
/-- A wider range. -/
theorem RnK.wide {w : World} {g : Nat} : ∀ {l : List Ex} {lo hi hi' j : Nat}, RnK w g lo hi j l → hi ≤ hi' → RnK w g lo hi' j l
  | [], _, _, _, _, _, _ => rnK_nil _ _ _ _ _
  | y :: l, lo, hi, hi', j, h, hh => by
    obtain ⟨ds, mid, h1, h2, h3, h4, h5, h6⟩ := (rnK_cons _ _ _ _ _ _ _).1 h
    exact (rnK_cons _ _ _ _ _ _ _).2 ⟨ds, mid, h1, h2, h3, by omega, h5, RnK.wide h6 hh⟩
theorem RnN.wide {w : World} {x : Ex} {cs : List Value} {lo lo' hi hi' : Nat} (h : RnN w lo hi x cs) (h1 : lo' ≤ lo) (h2 : hi ≤ hi') : RnN w lo' hi' x cs := by
  obtain ⟨k, o, vk, vn, vs, nm, kids⟩ := x
  obtain ⟨A, c, g, e, a, b, d, f, i⟩ := (rnN_mk _ _ _ _ _ _ _ _ _ _ _).1 h
  exact (rnN_mk _ _ _ _ _ _ _ _ _ _ _).2 ⟨A, c, g, e, a, b, d, fun hne => ⟨(f hne).1, by have := (f hne).2.1; omega, by have := (f hne).2.2.1; omega, (f hne).2.2.2⟩, i.wide h2⟩
/-- One kid more. -/
theorem RnK.snoc {w : World} {g : Nat} {y : Ex} {ds : List Value} (hl : ds.length = 7) : ∀ {l : List Ex} {lo mid hi j : Nat}, RnK w g lo mid j l → lo ≤ mid → mid ≤ hi → (∀ i u, ds[i]? = some u → w.cell? ⟨g, (j + l.length) * 7 + i, none⟩ = some u) → RnN w mid hi y ds → RnK w g lo hi j (l ++ [y])
  | [], lo, mid, hi, j, h, hlm, hmh, hc, hy => (rnK_cons _ _ _ _ _ _ _).2 ⟨ds, hi, hl, fun i u hu => by have := hc i u hu; rwa [List.length_nil, Nat.add_zero] at this, by omega, Nat.le_refl _, hy.wide hlm (Nat.le_refl _), rnK_nil _ _ _ _ _⟩
  | z :: l, lo, mid, hi, j, h, hlm, hmh, hc, hy => by
    obtain ⟨es, m, h1, h2, h3, h4, h5, h6⟩ := (rnK_cons _ _ _ _ _ _ _).1 h
    exact (rnK_cons _ _ _ _ _ _ _).2 ⟨es, m, h1, h2, h3, by omega, h5, RnK.snoc hl h6 h4 hmh (fun i u hu => by have := hc i u hu; rwa [List.length_cons, show (j + (l.length + 1)) = j + 1 + l.length by omega] at this) hy⟩
mutual
/-- What is not touched in its range stays. -/
theorem RnN.keep {w w' : World} : ∀ {x : Ex} {cs : List Value} {lo hi : Nat}, RnN w lo hi x cs → (∀ b, lo ≤ b → b < hi → OpenB w b → w'.heap[b]? = w.heap[b]?) → RnN w' lo hi x cs
  | .mk k o vk vn vs nm kids, cs, lo, hi, h, hk => by
    obtain ⟨A, c, g, e, a, b, d, f, i⟩ := (rnN_mk _ _ _ _ _ _ _ _ _ _ _).1 h
    by_cases hne : kids = []
    · subst hne
      exact (rnN_mk _ _ _ _ _ _ _ _ _ _ _).2 ⟨A, c, g, e, a, b, d, fun h => absurd rfl h, rnK_nil _ _ _ _ _⟩
    · obtain ⟨f1, f2, f3, f4⟩ := f hne
      have hg := hk g f2 f3 f4
      exact (rnN_mk _ _ _ _ _ _ _ _ _ _ _).2 ⟨A, c, g, e, a, b, d, fun _ => ⟨f1, f2, f3, by obtain ⟨cur, hc⟩ := f4; exact ⟨cur, hg.trans hc⟩⟩, RnK.keep i (fun i m _ _ _ => World.cell?_of_block hg) fun b h1 h2 h3 => hk b (by omega) h2 h3⟩
theorem RnK.keep {w w' : World} {g : Nat} : ∀ {l : List Ex} {lo hi j : Nat}, RnK w g lo hi j l → (∀ i m, j ≤ i → i < j + l.length → m < 7 → w'.cell? ⟨g, i * 7 + m, none⟩ = w.cell? ⟨g, i * 7 + m, none⟩) → (∀ b, lo ≤ b → b < hi → OpenB w b → w'.heap[b]? = w.heap[b]?) → RnK w' g lo hi j l
  | [], _, _, _, _, _, _ => rnK_nil _ _ _ _ _
  | y :: l, lo, hi, j, h, hg, hk => by
    obtain ⟨ds, mid, h1, h2, h3, h4, h5, h6⟩ := (rnK_cons _ _ _ _ _ _ _).1 h
    exact (rnK_cons _ _ _ _ _ _ _).2 ⟨ds, mid, h1, fun i u hu => (hg j i (Nat.le_refl _) (by rw [List.length_cons]; omega) (by have := (List.getElem?_eq_some_iff.1 hu).1; omega)).trans (h2 i u hu), h3, h4, RnN.keep h5 fun b a1 a2 a3 => hk b a1 (by omega) a3, RnK.keep h6 (fun i m b1 b2 b3 => hg i m (by omega) (by rw [List.length_cons]; omega) b3) fun b a1 a2 a3 => hk b (by omega) a2 a3⟩
end
/-- The first j kids are clones, their rows from behind g on, below m; the others are the old ones. -/
def MidR (n0 g : Nat) (l : List Ex) (j m : Nat) (w : World) : Prop :=
  (∃ cur, Cel w g tE cur ∧ l.length * 7 ≤ cur.size) ∧ (∀ (i : Nat) (y : Ex), l[i]? = some y → ∃ ds, ds.length = 7 ∧ (∀ q u, ds[q]? = some u → w.cell? ⟨g, i * 7 + q, none⟩ = some u) ∧ (j ≤ i → ExIn w (fun b => b < n0) y ds)) ∧
    RnK w g (g + 1) m 0 (l.take j) ∧ g + 1 ≤ m ∧ m ≤ w.heap.size
theorem open_same {w w' : World} {b : Nat} (h : OpenB w b) (hb : Below w.heap.size w w') : w'.heap[b]? = w.heap[b]? := by
  obtain ⟨cur, hc⟩ := h
  have h1 : w'.heap[b]? = _ := hc.below hb
  have h2 : w.heap[b]? = _ := hc
  exact h1.trans h2.symm
theorem MidR.below {n0 g j m : Nat} {l : List Ex} {w w' : World} (h : MidR n0 g l j m w) (hn : n0 ≤ w.heap.size) (hb : Below w.heap.size w w') : MidR n0 g l j m w' := by
  obtain ⟨⟨cur, hc, hs⟩, h2, h3, h4, h5⟩ := h
  refine ⟨⟨cur, hc.below hb, hs⟩, fun i y hy => ?_, RnK.keep h3 (fun i q _ _ _ => hb.cell hc.lt) (fun b _ _ ho => open_same ho hb), h4, Nat.le_trans h5 hb.size⟩
  obtain ⟨ds, hl, hcell, g4⟩ := h2 i y hy
  exact ⟨ds, hl, fun q u hu => (hb.cell (p := ⟨g, _, none⟩) hc.lt).trans (hcell q u hu), fun hi => ExIn.to (fun _ h => h) (fun p hp => hb.cell (by omega)) y ds (g4 hi)⟩
theorem MidR.put {n0 g j m m' : Nat} {l : List Ex} {w : World} {y : Ex} {v0 v1 v2 v3 v4 v5 v6 : Value} (h : MidR n0 g l j m w) (hg : n0 ≤ g) (hy : l[j]? = some y) (hm : m ≤ m') (hx : RnN w m' w.heap.size y [v0, v1, v2, v3, v4, v5, v6]) (hm2 : m' ≤ w.heap.size) :
    MidR n0 g l (j + 1) w.heap.size (put7 w g (j * 7) v0 v1 v2 v3 v4 v5 v6) := by
  obtain ⟨⟨cur, hc, hs⟩, h2, h3, h4, h5⟩ := h
  have hj := (List.getElem?_eq_some_iff.1 hy).1
  obtain ⟨cur', g1, g2, g3, g4⟩ := put7_cel (v0 := v0) (v1 := v1) (v2 := v2) (v3 := v3) (v4 := v4) (v5 := v5) (v6 := v6) (q := j * 7) hc (by omega)
  have hcell : ∀ p : Addr, p.block ≠ g → (put7 w g (j * 7) v0 v1 v2 v3 v4 v5 v6).cell? p = w.cell? p := fun p hp => World.cell?_of_block (put7_oth hp)
  have hother : ∀ i q, i ≠ j → q < 7 → (put7 w g (j * 7) v0 v1 v2 v3 v4 v5 v6).cell? ⟨g, i * 7 + q, none⟩ = w.cell? ⟨g, i * 7 + q, none⟩ := fun i q hi hq => by rw [g1.at_, g4 _ (by omega), ← hc.at_]
  refine ⟨⟨cur', g1, by omega⟩, fun i z hz => ?_, ?_, by omega, by rw [put7_size]; exact Nat.le_refl _⟩
  · by_cases hij : i = j
    · subst hij
      exact ⟨[v0, v1, v2, v3, v4, v5, v6], rfl, fun q u hu => by rw [g1.at_]; exact g3 q u hu, fun hi => by omega⟩
    · obtain ⟨ds, hl, hce, h4'⟩ := h2 i z hz
      exact ⟨ds, hl, fun q u hu => (hother i q hij (by have := (List.getElem?_eq_some_iff.1 hu).1; omega)).trans (hce q u hu), fun hi => ExIn.to (fun _ h => h) (fun p hp => hcell p (by omega)) z ds (h4' (by omega))⟩
  · have hlen : (l.take j).length = j := by rw [List.length_take]; omega
    rw [List.take_add_one, hy]
    refine RnK.snoc (ds := [v0, v1, v2, v3, v4, v5, v6]) rfl (mid := m') ?_ (by omega) hm2 (fun q u hu => by rw [hlen, Nat.zero_add, g1.at_]; exact g3 q u hu) ?_
    · exact (RnK.keep h3 (fun i q _ hi hq => hother i q (by omega) hq) fun b h1 _ ho => put7_oth (by omega)).wide hm
    · exact RnN.keep hx fun b h1 _ ho => put7_oth (by omega)
end Go.Proofs.YtbdippgamlknbaaDoor.Ep
namespace Go.Proofs.YtbdippgamlknbaaDoor.Eo
open Go.RowKit Go.Proofs.YtbdippgamlknbaaDoor.Mem Go.Proofs.YtbdippgamlknbaaDoor.Right Go.Proofs.YtbdippgamlknbaaDoor.Lx Go.Proofs.YtbdippgamlknbaaDoor.Ep Go.Proofs.YtbdippgamlknbaaDoor.Ev
set_option linter.unusedVariables false
set_option linter.unusedSimpArgs false
/-- What a call of fill leaves where a parameter stood: w2 is the world ahead of the store. -/
def FilP (w : World) (g q : Nat) (v : Vl) (e : Ending) (w' : World) : Prop := e = .returned (.bool (Right.okV v.k v.n v.s.data.toList)) ∧ ∃ w2 k o vk vn vs nm A n c, Below w.heap.size w w2 ∧ ExIn w2 (fun b => w.heap.size ≤ b ∧ b < w2.heap.size) (litX (vv v)) [.int .i64 k, .int .i64 o, .int .i64 vk, .int .i64 vn, .string (txt vs), .string (txt nm), .slice A n c] ∧ Below (put7 w2 g q (.int .i64 k) (.int .i64 o) (.int .i64 vk) (.int .i64 vn) (.string (txt vs)) (.string (txt nm)) (.slice A n c)).heap.size (put7 w2 g q (.int .i64 k) (.int .i64 o) (.int .i64 vk) (.int .i64 vn) (.string (txt vs)) (.string (txt nm)) (.slice A n c)) w'
set_option maxRecDepth 100000 in
set_option maxHeartbeats 600000 in
theorem fill_par {w : World} {g q : Nat} {cur : Array Value} (o : Int) {A : Option Addr} {n c : Nat} {vs : List Vl} (hc : Cel w g 38 cur) (hq : q + 7 ≤ cur.size) (h0 : w.cell? ⟨g, q, none⟩ = some (.int .i64 3)) (h1 : w.cell? ⟨g, q + 1, none⟩ = some (.int .i64 o)) (hV : Vals w w.heap.size A vs) (hn : n = vs.length) (hm : n ≤ 1000000) (hb : ∀ v ∈ vs, (-9223372036854775808 ≤ v.n ∧ v.n ≤ 9223372036854775807) ∧ v.s.size ≤ maxLen) (v : Vl) (j : Nat) (ho : o = (j : Int) + 1) (hj : vs[j]? = some v) :
    Calls Tryd.prog 56 #[.pointer (some ⟨g, q, none⟩), .slice A n c] w (FilP w g q v) := by
  subst ho
  have hlt : j < vs.length := (List.getElem?_eq_some_iff.1 hj).1
  obtain ⟨b, p, v', rfl, hbb, hv, c0, c1, c2⟩ := hV.at_ (k := j) hlt
  obtain rfl : v = v' := Option.some.inj (hj.symm.trans hv)
  have hvb := hb v (List.mem_of_getElem? hj)
  have hjn : j < n := by omega
  obtain ⟨W1, hW1⟩ : ∃ W1, w.alloc (.cells #[.int .i64 v.k, .int .i64 v.n, .string v.s] 35) = W1 := ⟨_, rfl⟩
  have HB1 := Lib.hid (show Below w.heap.size w W1 from by rw [← hW1]; exact al (Below.refl _ _) _)
  have HX1 := Lib.hid (show Cel W1 w.heap.size 35 #[.int .i64 v.k, .int .i64 v.n, .string v.s] from by rw [← hW1]; exact Cel.new _ _ _ rfl)
  have HC1 := Lib.hid (show Cel W1 g 38 cur from hc.below HB1.out)
  have HWR := Lib.hid (show ∀ W, Calls Tryd.prog 98 #[.agg #[.int .i64 v.k, .int .i64 v.n, .string v.s]] W (TreE W (litX (vv v))) from fun W => wr_any (vv v) hvb.1.1 W)
  have HRT := Lib.hid (show ∀ W, _ from fun W => Right.right_any v.k v.n v.s W hvb.2)
  have HQ := Lib.hid hq
  have HL := Lib.hid (show g < w.heap.size from hc.lt)
  have x0 := HX1.out.at_ 0
  have x1 := HX1.out.at_ 1
  have x2 := HX1.out.at_ 2
  have e1 : (j : Int) + 1 - 1 = (j : Int) := by omega
  have hj2 : (j : Int) + 1 ≤ 9223372036854775807 := by omega
  clear hV hn hb hj hv hvb hlt hq hc
  go_enter Tryd.func56, Tryd.ntmps56
  go_wp2_with (fail)
  go_at_call 98
  with_reducible refine (HWR.out _).mono ?_
  rintro e2 w2 ⟨k', o', vk', vn', vs', nm', A', n', c', rfl, hin, hb2⟩
  have HB2 := Lib.hid (Mem.on HB1.out hb2)
  have HIN := Lib.hid (in_on hin (Below.refl _ _) HB1.out.size)
  have HC2 := Lib.hid (HC1.out.below hb2)
  have HX2 := Lib.hid (HX1.out.below hb2)
  clear hin hb2
  have f0 := HC2.out.open_ q
  have g0 := HC2.out.at_ q
  have f1 := HC2.out.open_ (q + 1)
  have g1 := HC2.out.at_ (q + 1)
  have f2 := HC2.out.open_ (q + 2)
  have g2 := HC2.out.at_ (q + 2)
  have f3 := HC2.out.open_ (q + 3)
  have g3 := HC2.out.at_ (q + 3)
  have f4 := HC2.out.open_ (q + 4)
  have g4 := HC2.out.at_ (q + 4)
  have f5 := HC2.out.open_ (q + 5)
  have g5 := HC2.out.at_ (q + 5)
  have f6 := HC2.out.open_ (q + 6)
  have g6 := HC2.out.at_ (q + 6)
  rw [Array.getElem?_eq_getElem (by have := HQ.out; omega)] at g0 g1 g2 g3 g4 g5 g6
  have HX3 := Lib.hid (show Cel (put7 w2 g q (.int .i64 k') (.int .i64 o') (.int .i64 vk') (.int .i64 vn') (.string (txt vs')) (.string (txt nm')) (.slice A' n' c')) w.heap.size 35 #[.int .i64 v.k, .int .i64 v.n, .string v.s] from Cel.put_other HX2.out (by have := HL.out; omega))
  have z0 := HX3.out.at_ 0
  have z1 := HX3.out.at_ 1
  have z2 := HX3.out.at_ 2
  unfold put7 at z0 z1 z2
  go_wp2_with (go_at_call 99; (with_reducible refine (HRT.out _).mono ?_); rintro e3 w3 ⟨rfl, hb3⟩; have HB3 := Lib.hid hb3; clear hb3)
  go_ret
  exact ⟨rfl, w2, k', o', vk', vn', vs', nm', A', n', c', HB2.out, HIN.out, by unfold put7; exact HB3.out⟩
end Go.Proofs.YtbdippgamlknbaaDoor.Eo
