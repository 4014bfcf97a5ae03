/- Has a constraint or an index a column: the program's call (table.Uses). The columns that constraints and indexes name: the document's list (registrarref14.Used). A list of texts that came in as an argument; are two lists of numbers one; what a table wi -/
import Derived.Test.YtcblddpapehdeaaDoorC23
import Derived.Test.YtcblddpapehdeaaDoorC19
import Derived.Test.YtcblddpapehdeaaDoorC22
import Derived.Test.YtcblddpapehdeaaDoorC12
import Derived.Test.YtcblddpapehdeaaDoorC13
import Derived.Test.YtcblddpapehdeaaDoorC20
namespace Go.Proofs.YtcblddpapehdeaaDoor.Tk
open Go.RowKit Go.Proofs.YtcblddpapehdeaaDoor.Mem Go.Proofs.YtcblddpapehdeaaDoor.Ep Go.Proofs.YtcblddpapehdeaaDoor.Sm Go.Proofs.YtcblddpapehdeaaDoor.Right Go.ChangeShapes Go.WideShapes
set_option linter.unusedVariables false
section
variable {A : Option Addr} {c b : Nat} {s : Bs} {parts : List (List Bs)} {w : World}
end
/-- All lists of a table with few columns in each are short. -/
theorem usesL_short {x : Tb} (hc : ∀ c ∈ x.cons, c.cols.length ≤ 10000 ∧ (c.kind = 2 → size c.chk ≤ 1000)) (hi : ∀ i ∈ x.idx, i.2.length ≤ 10000) : ∀ l ∈ usesL x, l.length ≤ 100000 := by
  intro l hl
  unfold usesL at hl
  rcases List.mem_append.1 hl with h | h
  · obtain ⟨c, hcm, hl⟩ := List.mem_flatMap.1 h
    unfold useC at hl
    rcases List.mem_cons.1 hl with rfl | hl
    · have := (hc c hcm).1; omega
    · split at hl
      · rename_i hk
        simp at hl
        subst hl
        have h1 := names_len c.chk
        have h2 := (hc c hcm).2 hk
        omega
      · simp at hl
  · obtain ⟨i, him, rfl⟩ := List.mem_map.1 h
    have := hi i him; omega
theorem usesL_len (x : Tb) : (usesL x).length ≤ 2 * x.cons.length + x.idx.length := by
  unfold usesL
  rw [List.length_append, List.length_map]
  have := use_len x.cons
  omega
end Go.Proofs.YtcblddpapehdeaaDoor.Tk
namespace Go.Proofs.YtcblddpapehdeaaDoor.Tk
open Go.RowKit Go.Proofs.YtcblddpapehdeaaDoor.Mem Go.Proofs.YtcblddpapehdeaaDoor.Ep Go.Proofs.YtcblddpapehdeaaDoor.Sm Go.Proofs.YtcblddpapehdeaaDoor.Right Go.ChangeShapes Go.WideShapes
set_option linter.unusedVariables false
def listsL (x : Tb) : List (List Bs) := x.cons.map (·.cols) ++ x.idx.map (·.2)
def chkN (c : Cn) : List Bs := if c.kind = 2 then namesE c.chk else []
def usedL (x : Tb) : List Bs := (listsL x).flatten ++ x.cons.flatMap chkN
/-- What is used is what is in one of the lists. -/
theorem mem_used {x : Tb} {s : Bs} : s ∈ usedL x ↔ ∃ l ∈ usesL x, s ∈ l := by
  unfold usedL usesL listsL
  constructor
  · intro h
    rcases List.mem_append.1 h with h | h
    · obtain ⟨l, hl, hs⟩ := List.mem_flatten.1 h
      rcases List.mem_append.1 hl with hl | hl
      · obtain ⟨c, hc, rfl⟩ := List.mem_map.1 hl
        exact ⟨c.cols, List.mem_append_left _ (List.mem_flatMap.2 ⟨c, hc, by unfold useC; simp⟩), hs⟩
      · exact ⟨l, List.mem_append_right _ hl, hs⟩
    · obtain ⟨c, hc, hs⟩ := List.mem_flatMap.1 h
      unfold chkN at hs
      split at hs
      · rename_i hk
        exact ⟨namesE c.chk, List.mem_append_left _ (List.mem_flatMap.2 ⟨c, hc, by unfold useC; simp [hk]⟩), hs⟩
      · simp at hs
  · rintro ⟨l, hl, hs⟩
    rcases List.mem_append.1 hl with hl | hl
    · obtain ⟨c, hc, hlc⟩ := List.mem_flatMap.1 hl
      unfold useC at hlc
      rcases List.mem_cons.1 hlc with rfl | hlc
      · exact List.mem_append_left _ (List.mem_flatten.2 ⟨c.cols, List.mem_append_left _ (List.mem_map.2 ⟨c, hc, rfl⟩), hs⟩)
      · split at hlc
        · rename_i hk
          simp at hlc
          subst hlc
          exact List.mem_append_right _ (List.mem_flatMap.2 ⟨c, hc, by unfold chkN; rw [if_pos hk]; exact hs⟩)
        · simp at hlc
    · exact List.mem_append_left _ (List.mem_flatten.2 ⟨l, List.mem_append_right _ hl, hs⟩)
/-- Few and small. -/
structure UsF (x : Tb) : Prop where
  chk : ∀ c ∈ x.cons, c.kind = 2 → Lim c.chk ∧ size c.chk ≤ 1000
  all : (listsL x).flatten.length + (x.cons.map (fun c => size c.chk)).sum ≤ 10000
theorem chk_len : ∀ l : List Cn, (l.flatMap chkN).length ≤ (l.map (fun c => size c.chk)).sum
  | [] => by simp
  | c :: l => by
    have h1 := chk_len l
    have h2 : (chkN c).length ≤ size c.chk := by
      unfold chkN
      split
      · exact names_len _
      · simp
    rw [List.flatMap_cons, List.length_append, List.map_cons, List.sum_cons]
    omega
theorem chk_take (l : List Cn) (j : Nat) : ((l.take j).flatMap chkN).length ≤ (l.flatMap chkN).length := by
  have h : l.flatMap chkN = (l.take j).flatMap chkN ++ (l.drop j).flatMap chkN := by rw [← List.flatMap_append, List.take_append_drop]
  rw [h, List.length_append]
  omega
set_option maxRecDepth 20000 in
set_option maxHeartbeats 4000000 in
theorem refUsed_any (x : Tb) (f : Fb) (w : World) (hx : FbIn w w.heap.size f x) (h4 : f.n4 ≤ 1000) (h5 : f.n5 ≤ 1000) (hu : UsF x) : Calls Tryd.prog 17 #[.agg #[.string (txt x.nm), .string (txt x.own), .int .i64 x.ver, .slice f.A3 f.n3 f.a3, .slice f.A4 f.n4 f.a4, .slice f.A5 f.n5 f.a5]] w (TxtD (usedL x) w) := by
  obtain ⟨V, hV⟩ : ∃ W1, w.alloc (.cells #[.string (txt x.nm), .string (txt x.own), .int .i64 x.ver, .slice f.A3 f.n3 f.a3, .slice f.A4 f.n4 f.a4, .slice f.A5 f.n5 f.a5] tTb) = W1 := ⟨_, rfl⟩
  have hb : Below w.heap.size w V := by rw [← hV]; exact al (Below.refl _ _) _
  have HX := Lib.hid (show Tbx V w.heap.size f x from by rw [← hV]; exact tbx_new hx)
  have HFA := Lib.hid (fun W (g : Below V.heap.size V W) => HX.out.facts g)
  have HB := Lib.hid hb
  have HU := Lib.hid hu
  have HN4 := Lib.hid hx.n4
  have HLS := Lib.hid (lists_any x f V HX.out.all (by omega) (by omega))
  have HPL := Lib.hid (show (listsL x).length = f.n4 + f.n5 from by unfold listsL; rw [List.length_append, List.length_map, List.length_map, hx.n4, hx.n5])
  obtain ⟨parts, hparts⟩ : ∃ p, listsL x = p := ⟨_, rfl⟩
  have HPT := Lib.hid hparts
  have hls2 : x.cons.map (·.cols) ++ x.idx.map (·.2) = parts := hparts
  rw [hls2] at HLS
  rw [hparts] at HPL
  obtain ⟨n, hn⟩ : ∃ n, parts.length = n := ⟨_, rfl⟩
  have HN := Lib.hid hn
  have HTOT := Lib.hid (show parts.flatten.length ≤ 10000 from by have := hu.all; rw [hparts] at this; omega)
  rw [hn] at HPL
  have hnb : n ≤ 2000 := by have := HPL.out; omega
  have HLS2 := Lib.hid (show Calls Tryd.prog 50 #[.agg #[.string (txt x.nm), .string (txt x.own), .int .i64 x.ver, .slice f.A3 f.n3 f.a3, .slice f.A4 f.n4 f.a4, .slice f.A5 f.n5 f.a5]] V fun e w' => ∃ A c, e = .returned (.slice A n c) ∧ RowR w' w'.heap.size A parts ∧ Below V.heap.size V w' from HLS.out.mono fun e w' ⟨A, c, h1, h2, h3⟩ => ⟨A, c, by rw [h1, hn], h2.to, h3⟩)
  obtain ⟨ya0, ya1, ya2, ya3, ya4, ya5, yb0, yb1, yb2, yb3, yb4, yb5⟩ := HFA.out V (Below.refl _ _)
  clear hx hb hu hparts hls2 hn HLS
  go_enter Tryd.func17, Tryd.ntmps17
  go_wp2_with (go_at_call 50; (with_reducible refine HLS2.out.mono ?_); rintro e1 w1 ⟨A1, c1, rfl, hr1, hb1⟩; have HR1 := Lib.hid hr1; have HB1 := Lib.hid hb1; clear hr1 hb1)
  clear ya0 ya1 ya2 ya3 ya4 ya5 yb0 yb1 yb2 yb3 yb4 yb5 hV
  go_loopw [5, 4] (fun i u wr => ∃ (j : Nat) (v : Value), j ≤ n ∧ i = .int .i64 (j : Int) ∧ v = u ∧ Hid (TS w1 v ((parts.take j).flatten) wr)) (fun i _ _ => n + 1 - (intOf i).toNat)
  case atStart => exact ⟨0, _, Nat.zero_le _, rfl, rfl, Lib.hid (ts_none (Below.refl _ _))⟩
  case round =>
    obtain ⟨j, v, hj, rfl, rfl, HT⟩ := hrel
    by_cases hlt : j < n
    · --<
      have tl : decide ((j : Int) < (n : Int)) = true := decide_eq_true (by omega)
      have tl2 : decide (j < n) = true := decide_eq_true hlt
      obtain ⟨l, hl⟩ := some_at HN.out hlt
      obtain ⟨b, o, P, c2, rfl, hb, c0, hc, hr⟩ := (HR1.out.below HT.out.low (Nat.le_refl _)) j l hl
      obtain ⟨m, hm⟩ : ∃ m, l.length = m := ⟨_, rfl⟩
      rw [hm] at c0
      have HM := Lib.hid hm
      have HR := Lib.hid hr
      have HC := Lib.hid hc
      have HE := Lib.hid (show ∀ v' w', TS w1 v' ((parts.take j).flatten ++ l) w' → TS w1 v' ((parts.take (j + 1)).flatten) w' from fun v' w' g => by rw [flat_on hl]; exact g)
      have HL := Lib.hid (show (parts.take j).flatten.length + m ≤ 100000 from by have h1 := flat_le (parts := parts) (j := j + 1); rw [flat_on hl, List.length_append, hm] at h1; have := HTOT.out; omega)
      clear hr hc hl hm hb
      go_wp2_with (at_builtin; refine wp_app HT.out (.tmp 15) (.tmp 19) rfl rfl rfl rfl HR.out HM.out HC.out HL.out ?_; intro v2 w2 g1 g2 g3 g4; have HR2 := Lib.hid (HE.out _ _ g1); clear g1 g2 g3 g4)
      go_roundw
      case rel => exact ⟨j + 1, _, by omega, by go_num, rfl, HR2⟩
      case measure => simp [intOf]; omega
      -->
    · have tl : decide ((j : Int) < (n : Int)) = false := decide_eq_false (by omega)
      have tl2 : decide (j < n) = false := decide_eq_false hlt
      obtain rfl : j = n := by omega
      have T4 := Lib.hid (show TS w1 v parts.flatten wr from by have h1 := HT.out; rw [← HN.out, List.take_length] at h1; exact h1)
      clear HT hj hlt tl tl2
      go_wp2
      go_loopw [6, 4] (fun i u wr => ∃ (j : Nat) (v : Value), j ≤ f.n4 ∧ i = .int .i64 (j : Int) ∧ v = u ∧ Hid (TS w1 v (parts.flatten ++ (x.cons.take j).flatMap chkN) wr)) (fun i _ _ => f.n4 + 1 - (intOf i).toNat)
      case atStart => exact ⟨0, _, Nat.zero_le _, rfl, rfl, Lib.hid (by rw [List.take_zero, List.flatMap_nil, List.append_nil]; exact T4.out)⟩
      case round =>
        obtain ⟨j, v, hj, rfl, rfl, HT⟩ := hrel
        have hmx : f.n4 ≤ 2 ^ 63 - 1 := by omega
        have hlo := HB1.out.trans (HT.out.low.mono HB1.out.size)
        have y4 : wr.cell? ⟨w.heap.size, 4, none⟩ = some (.slice f.A4 f.n4 f.a4) := HX.out.at_ hlo 4
        by_cases hlt : j < f.n4
        · --<
          obtain ⟨c, hc⟩ := some_at HN4.out.symm hlt
          have tl : decide ((j : Int) < (f.n4 : Int)) = true := decide_eq_true (by omega)
          have tl2 : decide (j < f.n4) = true := decide_eq_true hlt
          obtain ⟨b1, o1, P, pn, pc, k0, o0, vk, vn, vs, ns, A0, m0, c0, Q, qn, qc, hA, hb2, hp, -, i2, -⟩ := cn_at HX.out.all.cons.2.2.2 hc
          rw [hA] at y4
          have p1 : wr.cell? ⟨b1, o1 + j * 12 + 1, none⟩ = some (.int .i64 c.kind) := (hlo.cell (p := ⟨b1, o1 + j * 12 + 1, none⟩) hb2).trans (hp 1 _ rfl)
          have p3 : wr.cell? ⟨b1, o1 + j * 12 + 3, none⟩ = some (.int .i64 k0) := (hlo.cell (p := ⟨b1, o1 + j * 12 + 3, none⟩) hb2).trans (hp 3 _ rfl)
          have p4 : wr.cell? ⟨b1, o1 + j * 12 + 4, none⟩ = some (.int .i64 o0) := (hlo.cell (p := ⟨b1, o1 + j * 12 + 4, none⟩) hb2).trans (hp 4 _ rfl)
          have p5 : wr.cell? ⟨b1, o1 + j * 12 + 5, none⟩ = some (.int .i64 vk) := (hlo.cell (p := ⟨b1, o1 + j * 12 + 5, none⟩) hb2).trans (hp 5 _ rfl)
          have p6 : wr.cell? ⟨b1, o1 + j * 12 + 6, none⟩ = some (.int .i64 vn) := (hlo.cell (p := ⟨b1, o1 + j * 12 + 6, none⟩) hb2).trans (hp 6 _ rfl)
          have p7 : wr.cell? ⟨b1, o1 + j * 12 + 7, none⟩ = some (.string vs) := (hlo.cell (p := ⟨b1, o1 + j * 12 + 7, none⟩) hb2).trans (hp 7 _ rfl)
          have p8 : wr.cell? ⟨b1, o1 + j * 12 + 8, none⟩ = some (.string ns) := (hlo.cell (p := ⟨b1, o1 + j * 12 + 8, none⟩) hb2).trans (hp 8 _ rfl)
          have p9 : wr.cell? ⟨b1, o1 + j * 12 + 9, none⟩ = some (.slice A0 m0 c0) := (hlo.cell (p := ⟨b1, o1 + j * 12 + 9, none⟩) hb2).trans (hp 9 _ rfl)
          have hfl := take_flat_on (g := chkN) hc
          by_cases hk : c.kind = 2
          · have HCN := Lib.hid (show Calls Tryd.prog 51 #[.agg #[.int .i64 k0, .int .i64 o0, .int .i64 vk, .int .i64 vn, .string vs, .string ns, .slice A0 m0 c0]] wr (TxtD (namesE c.chk) wr) from refExNames_any c.chk _ wr (ExIn.to (fun b hb' => Nat.lt_of_lt_of_le hb' hlo.size) (fun q hq' => hlo.cell hq') _ _ i2) (HU.out.chk c (List.mem_of_getElem? hc) hk).2)
            have HSN := Lib.hid (show ∀ v' w', TS w1 v' ((parts.flatten ++ (x.cons.take j).flatMap chkN) ++ namesE c.chk) w' → TS w1 v' (parts.flatten ++ (x.cons.take (j + 1)).flatMap chkN) w' from fun v' w' g => by
              rw [hfl, ← List.append_assoc]
              unfold chkN at g ⊢
              rw [if_pos hk]
              exact g)
            have HL := Lib.hid (show (parts.flatten ++ (x.cons.take j).flatMap chkN).length + (namesE c.chk).length ≤ 100000 from by
              have h1 := chk_take x.cons (j + 1)
              have h2 := chk_len x.cons
              have h3 := HU.out.all
              rw [HPT.out] at h3
              rw [hfl, List.length_append] at h1
              have h4 : chkN c = namesE c.chk := by unfold chkN; rw [if_pos hk]
              rw [h4] at h1
              rw [List.length_append]
              omega)
            rw [hk] at p1
            clear hfl hlo hA hb2 hp i2 hc hk
            go_wp2_with (first | (go_at_call 51; (with_reducible refine HCN.out.mono ?_); rintro e3 w3 ⟨A3, c3, rfl, ht3⟩; have HT3 := Lib.hid (HT.out.call ht3.low); have HTS := Lib.hid ht3; clear ht3) | (at_builtin; refine wp_app HT3.out (.tmp 35) (.tmp 42) rfl rfl rfl rfl HTS.out.row rfl HTS.out.nil0 HL.out ?_; intro v2 w2 g1 g2 g3 g4; have HR2 := Lib.hid (HSN.out _ _ g1); clear g1 g2 g3 g4))
            go_roundw
            case rel => exact ⟨j + 1, _, by omega, by go_num, rfl, HR2⟩
            case measure => simp [intOf]; omega
          · have HSN := Lib.hid (show TS w1 v (parts.flatten ++ (x.cons.take (j + 1)).flatMap chkN) wr from by
              rw [hfl]
              have e : chkN c = [] := by unfold chkN; rw [if_neg hk]
              rw [e, List.append_nil]
              exact HT.out)
            have tk : (c.kind == 2) = false := beq_no hk
            clear hfl hlo hA hb2 hp i2 hc
            go_wp2
            go_roundw
            case rel => exact ⟨j + 1, _, by omega, by go_num, rfl, HSN⟩
            case measure => simp [intOf]; omega
          -->
        · have tl : decide ((j : Int) < (f.n4 : Int)) = false := decide_eq_false (by omega)
          have tl2 : decide (j < f.n4) = false := decide_eq_false hlt
          obtain rfl : j = f.n4 := by omega
          have T5 := Lib.hid (show TS w1 v (usedL x) wr from by
            have h1 := HT.out
            rw [HN4.out, List.take_length] at h1
            unfold usedL
            rw [HPT.out]
            exact h1)
          go_wp2
          go_ret
          exact TxtD.of T5.out (HB.out.trans (HB1.out.mono HB.out.size))
end Go.Proofs.YtcblddpapehdeaaDoor.Tk
namespace Go.Proofs.YtcblddpapehdeaaDoor.Tk
open Go.ChangeShapes Go.WideShapes Go.ChangeAt Go.RowKit Go.Proofs.YtcblddpapehdeaaDoor.Mem Go.Proofs.YtcblddpapehdeaaDoor.Ep Go.Proofs.YtcblddpapehdeaaDoor.Sm Go.Proofs.YtcblddpapehdeaaDoor.Right
set_option linter.unusedVariables false
section
variable {H : Type} {enc : TypeId × Value → H} {W : World}
end
theorem flat_few {L : List (List Bs)} {k : Nat} (h : ∀ l ∈ L, l.length ≤ k) : L.flatten.length ≤ k * L.length := by
  induction L with
  | nil => simp
  | cons l L ih =>
    have h1 := ih fun x hx => h x (List.mem_cons_of_mem _ hx)
    have h2 := h l (by simp)
    rw [List.flatten_cons, List.length_append, List.length_cons, Nat.mul_succ]
    omega
theorem sum_few {α : Type} {L : List α} {g : α → Nat} {k : Nat} (h : ∀ l ∈ L, g l ≤ k) : (L.map g).sum ≤ k * L.length := by
  induction L with
  | nil => simp
  | cons l L ih =>
    have h1 := ih fun x hx => h x (List.mem_cons_of_mem _ hx)
    have h2 := h l (by simp)
    rw [List.map_cons, List.sum_cons, List.length_cons, Nat.mul_succ]
    omega
section
variable {x : Tb}
theorem exF_lim {e : Ex} (h : exF e) : Lim e ∧ size e ≤ 60 := by
  obtain ⟨m, h⟩ := h
  exact ⟨cnt_lim h, by have := cnt_size h; omega⟩
theorem FwT.chk (h : FwT x) : ∀ c ∈ x.cons, Lim c.chk ∧ size c.chk ≤ 60 := fun c hc => exF_lim (h.cons c hc).1.2.2
theorem FwT.chk2 (h : FwT x) : ∀ c ∈ x.cons, c.kind = 2 → Lim c.chk ∧ size c.chk ≤ 1000 := fun c hc _ => ⟨(h.chk c hc).1, by have := (h.chk c hc).2; omega⟩
theorem FwT.lists (h : FwT x) : ∀ l ∈ listsL x, l.length ≤ 12 ∧ ∀ s ∈ l, s.length ≤ 100 := by
  intro l hl
  unfold listsL at hl
  rcases List.mem_append.1 hl with hl | hl
  · obtain ⟨c, hc, rfl⟩ := List.mem_map.1 hl
    refine ⟨(h.cons c hc).1.1, fun s hs => (h.cons c hc).2 s ?_⟩
    unfold cnT
    simp [hs]
  · obtain ⟨i, hi, rfl⟩ := List.mem_map.1 hl
    exact ⟨(h.idx i hi).1, (h.idx i hi).2.2⟩
theorem FwT.usf (h : FwT x) : UsF x where
  chk := h.chk2
  all := by
    have h1 := flat_few fun l hl => (h.lists l hl).1
    have h2 : (listsL x).length = x.cons.length + x.idx.length := by unfold listsL; rw [List.length_append, List.length_map, List.length_map]
    have h3 := sum_few (L := x.cons) (g := fun c => size c.chk) fun c hc => (h.chk c hc).2
    have h4 := h.sizes
    rw [h2] at h1
    omega
theorem FwT.short (h : FwT x) : ∀ l ∈ usesL x, l.length ≤ 100000 := usesL_short (fun c hc => ⟨by have := (h.cons c hc).1.1; omega, fun _ => by have := (h.chk c hc).2; omega⟩) (fun i hi => by have := (h.idx i hi).1; omega)
theorem FwT.n3 (h : FwT x) {w : World} {B : Nat} {f : Fb} (hf : FbIn w B f x) : f.n3 ≤ 12 ∧ f.n4 ≤ 12 ∧ f.n5 ≤ 12 := by rw [hf.n3, hf.n4, hf.n5]; exact h.sizes
end
end Go.Proofs.YtcblddpapehdeaaDoor.Tk
