/- What the questions about one byte answer. A variable of a row's list, wherever it stands on it: an array of texts, cell by cell. The table of signs, as the row lays it, and how long the sign is with which a text begins. How long the sign is with which a text begins. -/
import Derived.Test.YtbdippgamlknbaaGreatDoorKs01
import Derived.Test.YtbdippgamlknbaaGreatDoorKs05
import Derived.Lib.LaidTab
import Derived.MakeChecks
import Derived.OpenShut
import Derived.Test.YtbdippgamlknbaaGreatDoorKs03
import Derived.Lib.MinMax
import Derived.Deep.LoopGhost
import Derived.ChangeKeysEq
namespace Go.Proofs.YtbdippgamlknbaaGreatDoor.Lx
open Go.RowKit Go.Proofs.YtbdippgamlknbaaGreatDoor.Mem Go.Proofs.YtbdippgamlknbaaGreatDoor.Right
set_option linter.unusedVariables false
theorem small_any (c : UInt8) (w : World) : Calls Tryz.prog 280 #[.int .u8 (c.toNat : Int)] w fun e w' => e = .returned (.bool (small c)) ∧ w = w' := by
  have H := small_num c
  cases h : decide (97 ≤ (c.toNat : Int)) with
  | true =>
    rw [h, Bool.true_and] at H
    have H := Lib.hid H
    go_enter Tryz.func280, Tryz.ntmps280
    go_wp2
    go_ret
    exact ⟨rb H.out.symm, rfl⟩
  | false =>
    rw [h, Bool.false_and] at H
    have H := Lib.hid H
    go_enter Tryz.func280, Tryz.ntmps280
    go_wp2
    go_ret
    exact ⟨rb H.out.symm, rfl⟩
theorem cap_any (c : UInt8) (w : World) : Calls Tryz.prog 283 #[.int .u8 (c.toNat : Int)] w fun e w' => e = .returned (.bool (cap c)) ∧ w = w' := by
  have H := cap_num c
  cases h : decide (65 ≤ (c.toNat : Int)) with
  | true =>
    rw [h, Bool.true_and] at H
    have H := Lib.hid H
    go_enter Tryz.func283, Tryz.ntmps283
    go_wp2
    go_ret
    exact ⟨rb H.out.symm, rfl⟩
  | false =>
    rw [h, Bool.false_and] at H
    have H := Lib.hid H
    go_enter Tryz.func283, Tryz.ntmps283
    go_wp2
    go_ret
    exact ⟨rb H.out.symm, rfl⟩
theorem dig_any (c : UInt8) (w : World) : Calls Tryz.prog 285 #[.int .u8 (c.toNat : Int)] w fun e w' => e = .returned (.bool (dig c)) ∧ w = w' := by
  have H := dig_num c
  cases h : decide (48 ≤ (c.toNat : Int)) with
  | true =>
    rw [h, Bool.true_and] at H
    have H := Lib.hid H
    go_enter Tryz.func285, Tryz.ntmps285
    go_wp2
    go_ret
    exact ⟨rb H.out.symm, rfl⟩
  | false =>
    rw [h, Bool.false_and] at H
    have H := Lib.hid H
    go_enter Tryz.func285, Tryz.ntmps285
    go_wp2
    go_ret
    exact ⟨rb H.out.symm, rfl⟩
theorem inKey_any (c : UInt8) (w : World) : Calls Tryz.prog 284 #[.int .u8 (c.toNat : Int)] w fun e w' => e = .returned (.bool (inKey c)) ∧ w = w' := by
  have H : inKey c = (cap c || ((c.toNat : Int) == 95)) := by unfold inKey; rw [eq_byte]; rfl
  cases h : cap c with
  | true =>
    rw [h, Bool.true_or] at H
    have H := Lib.hid H
    go_enter Tryz.func284, Tryz.ntmps284
    go_wp2_with (go_at_call 283; refine (cap_any c _).mono ?_; rintro e w' ⟨rfl, rfl⟩)
    go_ret
    exact ⟨rb H.out.symm, rfl⟩
  | false =>
    rw [h, Bool.false_or] at H
    have H := Lib.hid H
    go_enter Tryz.func284, Tryz.ntmps284
    go_wp2_with (go_at_call 283; refine (cap_any c _).mono ?_; rintro e w' ⟨rfl, rfl⟩)
    go_ret
    exact ⟨rb H.out.symm, rfl⟩
theorem inName_any (c : UInt8) (w : World) : Calls Tryz.prog 282 #[.int .u8 (c.toNat : Int)] w fun e w' => e = .returned (.bool (inName c)) ∧ w = w' := by
  have H : inName c = (small c || dig c || ((c.toNat : Int) == 95)) := by unfold inName; rw [eq_byte]; rfl
  cases h : small c with
  | true =>
    rw [h, Bool.true_or, Bool.true_or] at H
    have H := Lib.hid H
    go_enter Tryz.func282, Tryz.ntmps282
    go_wp2_with (first | (go_at_call 280; refine (small_any c _).mono ?_; rintro e w' ⟨rfl, rfl⟩) | (go_at_call 285; refine (dig_any c _).mono ?_; rintro e w' ⟨rfl, rfl⟩))
    go_ret
    exact ⟨rb H.out.symm, rfl⟩
  | false =>
    rw [h, Bool.false_or] at H
    cases h2 : dig c with
    | true =>
      rw [h2, Bool.true_or] at H
      have H := Lib.hid H
      go_enter Tryz.func282, Tryz.ntmps282
      go_wp2_with (first | (go_at_call 280; refine (small_any c _).mono ?_; rintro e w' ⟨rfl, rfl⟩) | (go_at_call 285; refine (dig_any c _).mono ?_; rintro e w' ⟨rfl, rfl⟩))
      go_ret
      exact ⟨rb H.out.symm, rfl⟩
    | false =>
      rw [h2, Bool.false_or] at H
      have H := Lib.hid H
      go_enter Tryz.func282, Tryz.ntmps282
      go_wp2_with (first | (go_at_call 280; refine (small_any c _).mono ?_; rintro e w' ⟨rfl, rfl⟩) | (go_at_call 285; refine (dig_any c _).mono ?_; rintro e w' ⟨rfl, rfl⟩))
      go_ret
      exact ⟨rb H.out.symm, rfl⟩
/-- No kind, if the size is nothing. -/
theorem orNone_any (k n : Nat) (w : World) : Calls Tryz.prog 286 #[.int .i64 (k : Int), .int .i64 (n : Int)] w fun e w' => e = .returned (.tuple #[.int .i64 ((orN k n).1 : Int), .int .i64 ((orN k n).2 : Int)]) ∧ w = w' := by
  by_cases h : n = 0
  · subst h
    go_enter Tryz.func286, Tryz.ntmps286
    go_wp2
    go_ret2
    exact ⟨rfl, rfl⟩
  · have H := Lib.hid (show orN k n = (k, n) from if_neg h)
    have t : ((n : Int) == 0) = false := beq_no (by omega)
    clear h
    go_enter Tryz.func286, Tryz.ntmps286
    go_wp2
    go_ret2
    exact ⟨by rw [H.out]; rfl, rfl⟩
end Go.Proofs.YtbdippgamlknbaaGreatDoor.Lx
namespace Go.Proofs.YtbdippgamlknbaaGreatDoor.Mem
open Go.RowKit
set_option linter.unusedVariables false
/-- What a listed variable reads as. -/
theorem laid_var {P : Program} {w : World} {n : String} {d : DataW Unit} : ∀ {l : List (String × DataW Unit)} {ps : List MemPlace}, DataW.LaidVars P w l ps → (n, d) ∈ l →
    ∃ g t cs fuel p, P.globalNamed n = some g ∧ (P.globals[g]?).map (·.type) = some t ∧ w.var? P n = some cs ∧ DataW.trod (fun _ => ()) P w 0 (fun _ => true) false fuel t cs.toList = some (d, p)
  | [], _, _, h => by simp at h
  | (n', d') :: r, ps, h, hm => by
    obtain ⟨g, t, cs, fuel, p, q, h1, h2, h3, h4, h5, _⟩ := h
    rcases List.mem_cons.1 hm with e | hm
    · injection e with e1 e2
      subst e1 e2
      exact ⟨g, t, cs, fuel, p, h1, h2, h3, h4⟩
    · exact laid_var h5 hm
/-- An array of texts on the list. -/
theorem laid_texts {P : Program} {W : World} {l : List (String × DataW Unit)} {name : String} {L : List (List UInt8)} {g : Nat} {tA tS : TypeId} {N : Nat} (h : laidMetH P l W) (hp : (l.all fun x => x.2.handleName?.isNone) = true)
    (hm : (name, (DataW.agg (L.map fun l => .lit (.string l)) : DataW Unit)) ∈ l) (hg : P.globalNamed name = some g) (ht : (P.globals[g]?).map (·.type) = some tA) (hu : P.underlying tA = some (.array N tS)) (hs : P.underlying tS = some .string) (c1 : P.cellsOf tS = 1) (hN : L.length = N) :
    ∀ (k : Nat) (v : Value), (L.map fun l => Value.string ⟨l.toArray⟩)[k]? = some v → W.cell? ⟨g, k, none⟩ = some v := by
  rw [MakeChecks.laidMetH_plain _ _ _ hp] at h
  obtain ⟨ps, hv, _, _⟩ := h
  obtain ⟨g0, t0, cs0, f0, p0, hg0, ht0, hv0, hd0⟩ := laid_var hv hm
  obtain rfl := Option.some.inj (hg.symm.trans hg0)
  obtain rfl := Option.some.inj (ht.symm.trans ht0)
  obtain ⟨xs, m1, rfl, hx1, hlen, hn, hel⟩ := DataW.trod_array hu hd0
  have hxs : xs.map (·.1) = L.map fun l => (DataW.lit (.string l) : DataW Unit) := by
    have h1 : (DataW.agg (L.map fun l => (DataW.lit (.string l) : DataW Unit))) = DataW.agg (xs.map (·.1)) := congrArg Prod.fst hx1
    injection h1 with h1
    exact h1.symm
  intro k v hv
  rw [List.getElem?_map] at hv
  obtain ⟨l, hl, rfl⟩ := Option.map_eq_some_iff.1 hv
  obtain ⟨hk, _⟩ := List.getElem?_eq_some_iff.1 hl
  have h1 := hel k (by omega)
  rw [c1, Nat.mul_one] at h1
  have hxk : k < xs.length := by rw [hn]; omega
  rw [List.getElem?_eq_getElem hxk] at h1
  obtain ⟨z, hz, hx, _⟩ := DataW.trod_string hs h1
  have h2 : (xs.map (·.1))[k]? = some (DataW.lit (.string z.data.toList) : DataW Unit) := by
    rw [List.getElem?_map, List.getElem?_eq_getElem hxk, hx]; rfl
  rw [hxs, List.getElem?_map, hl] at h2
  injection h2 with h2
  injection h2 with h2
  injection h2 with h2
  have e : z = ⟨l.toArray⟩ := by
    obtain ⟨⟨z⟩⟩ := z
    simp at h2
    rw [h2]
  have h3 : cs0.toList[k]? = some (.string z) := by
    have := congrArg (·[0]?) hz
    simpa [List.getElem?_take, List.getElem?_drop] using this
  have := World.var?_cell hg0 hv0 k
  rw [this, ← e]
  simpa using h3
end Go.Proofs.YtbdippgamlknbaaGreatDoor.Mem
namespace Go.Proofs.YtbdippgamlknbaaGreatDoor.Lx
open Go.RowKit Go.Proofs.YtbdippgamlknbaaGreatDoor.Mem Go.Proofs.YtbdippgamlknbaaGreatDoor.Right
set_option linter.unusedVariables false
/-- All signs. -/
def sgs : List (List UInt8) := [[40], [41], [44], [61], [60, 62], [60], [60, 61], [62], [62, 61], [43], [45], [42], [47], [37], [124, 124]]
def SG : List Value := sgs.map fun l => .string ⟨l.toArray⟩
/-- The variable holds them. -/
def Signs (w : World) : Prop := ∀ (k : Nat) (v : Value), SG[k]? = some v → w.cell? ⟨0, k, none⟩ = some v
theorem Signs.below {w w' : World} {B : Nat} (h : Signs w) (hb : Below B w w') (hB : 0 < B) : Signs w' := fun k v hv => (hb.cell hB).trans (h k v hv)
theorem Signs.lt {w : World} (h : Signs w) : 0 < w.heap.size := cell_lt (h 0 _ rfl)
/-- From the row's condition to the cells. -/
theorem signs_of_laid {l : List (String × DataW Unit)} {W : World} (h : laidMetH Tryz.prog l W) (hp : (l.all fun x => x.2.handleName?.isNone) = true) (hm : ("registrar/lex.signs", (Rows.laid_registrar_lex_signs : DataW Unit)) ∈ l) : Signs W :=
  laid_texts (L := sgs) h hp hm (by kernel_rfl) (by kernel_rfl) Tryz.underlying314 Tryz.underlying9 (by kernel_rfl) rfl
end Go.Proofs.YtbdippgamlknbaaGreatDoor.Lx
namespace Go.Proofs.YtbdippgamlknbaaGreatDoor.Lx
open Go.RowKit Go.Proofs.YtbdippgamlknbaaGreatDoor.Mem Go.Proofs.YtbdippgamlknbaaGreatDoor.Right
set_option linter.unusedVariables false
theorem idx_at {cs : Array Value} {i : Int} {k : Nat} {v : Value} (hi : i = (k : Int)) (h0 : 0 ≤ i) (hn : i < 15) (h : cs[k]? = some v) (w : World) :
    (Instr.index 314 (.agg cs) (.int .i64 i)).run Tryz.prog w = .ok v w := by
  subst hi
  have hk : k < 15 := by omega
  simp [Instr.index, run_underlying Tryz.underlying314, asIntOf]
  rw [if_pos hk]
  exact run_part_plain (P := Tryz.prog) (e := 9) (he := by kernel_rfl) (hx := h) (w := w)
set_option maxRecDepth 100000 in
theorem sg_at : ∀ (j : Nat) (l : List UInt8), j < 15 → sgs[j]? = some l → ∀ (w : World), (Instr.index 314 (.agg #[Value.string ⟨#[40]⟩, Value.string ⟨#[41]⟩, Value.string ⟨#[44]⟩, Value.string ⟨#[61]⟩, Value.string ⟨#[60, 62]⟩, Value.string ⟨#[60]⟩, Value.string ⟨#[60, 61]⟩, Value.string ⟨#[62]⟩, Value.string ⟨#[62, 61]⟩, Value.string ⟨#[43]⟩, Value.string ⟨#[45]⟩, Value.string ⟨#[42]⟩, Value.string ⟨#[47]⟩, Value.string ⟨#[37]⟩, Value.string ⟨#[124, 124]⟩]) (.int .i64 (j : Int))).run Tryz.prog w = .ok (.string ⟨l.toArray⟩) w := fun j l hj h w => match j, hj, h with
  | 0, _, h => by injection h with h; subst h; exact idx_at rfl (by decide) (by decide) rfl w
  | 1, _, h => by injection h with h; subst h; exact idx_at rfl (by decide) (by decide) rfl w
  | 2, _, h => by injection h with h; subst h; exact idx_at rfl (by decide) (by decide) rfl w
  | 3, _, h => by injection h with h; subst h; exact idx_at rfl (by decide) (by decide) rfl w
  | 4, _, h => by injection h with h; subst h; exact idx_at rfl (by decide) (by decide) rfl w
  | 5, _, h => by injection h with h; subst h; exact idx_at rfl (by decide) (by decide) rfl w
  | 6, _, h => by injection h with h; subst h; exact idx_at rfl (by decide) (by decide) rfl w
  | 7, _, h => by injection h with h; subst h; exact idx_at rfl (by decide) (by decide) rfl w
  | 8, _, h => by injection h with h; subst h; exact idx_at rfl (by decide) (by decide) rfl w
  | 9, _, h => by injection h with h; subst h; exact idx_at rfl (by decide) (by decide) rfl w
  | 10, _, h => by injection h with h; subst h; exact idx_at rfl (by decide) (by decide) rfl w
  | 11, _, h => by injection h with h; subst h; exact idx_at rfl (by decide) (by decide) rfl w
  | 12, _, h => by injection h with h; subst h; exact idx_at rfl (by decide) (by decide) rfl w
  | 13, _, h => by injection h with h; subst h; exact idx_at rfl (by decide) (by decide) rfl w
  | 14, _, h => by injection h with h; subst h; exact idx_at rfl (by decide) (by decide) rfl w
  | j + 15, hj, _ => absurd hj (by omega)
theorem sg_lit (l : List UInt8) (hl : l ∈ sgs) : l.length = 1 ∨ l.length = 2 := by
  simp [sgs] at hl
  rcases hl with rfl | rfl | rfl | rfl | rfl | rfl | rfl | rfl | rfl | rfl | rfl | rfl | rfl | rfl | rfl <;> simp
theorem single_sg (c : UInt8) : single c = true ↔ [c] ∈ sgs := by
  unfold single sgs
  simp [or_assoc]
theorem two_sg (c d : UInt8) : two c d = true ↔ [c, d] ∈ sgs := by
  unfold two sgs
  simp [and_or_left, or_assoc]
/-- How long the sign is with which a text begins. -/
def sz : List UInt8 → Nat
  | [] => 0
  | c :: t => sgn c t
/-- Of the signs of more than z bytes none begins it. -/
def NoSg (l : List UInt8) (z : Nat) : Prop := ∀ y, z < y → y ≤ 2 → y ≤ l.length → l.take y ∉ sgs
theorem NoSg.start {l : List UInt8} {z : Nat} (h : l.length ≤ z ∨ 2 ≤ z) : NoSg l z := fun y h1 h2 h3 => by omega
theorem NoSg.less {l : List UInt8} {z : Nat} (h : NoSg l (z + 1)) (h1 : l.take (z + 1) ∉ sgs) : NoSg l z := fun y h2 h3 h4 => by
  by_cases e : y = z + 1
  · subst e; exact h1
  · exact h y (by omega) h3 h4
theorem sz_is {l : List UInt8} {z : Nat} (hl : l ≠ []) (hz : z ≤ l.length) (h2 : z ≤ 2) (h : z = 0 ∨ l.take z ∈ sgs) (hn : NoSg l z) : sz l = z := by
  match l, hl with
  | [c], _ =>
    show (if single c = true then 1 else 0) = z
    by_cases hc : single c = true
    · rw [if_pos hc]
      have h1 := hn 1
      simp at hz
      by_cases e : z = 0
      · exact absurd ((single_sg c).1 hc) (h1 (by omega) (by omega) (by simp))
      · omega
    · rw [if_neg hc]
      rcases h with h | h
      · omega
      · simp at hz
        by_cases e : z = 0
        · omega
        · obtain rfl : z = 1 := by omega
          exact absurd ((single_sg c).2 h) hc
  | c :: d :: r, _ =>
    show (if two c d = true then 2 else if single c = true then 1 else 0) = z
    by_cases h3 : two c d = true
    · rw [if_pos h3]
      by_cases e : z = 2
      · exact e.symm
      · exact absurd ((two_sg c d).1 h3) (hn 2 (by omega) (by omega) (by simp))
    · rw [if_neg h3]
      have hz2 : z ≠ 2 := fun e => by
        subst e
        rcases h with h | h
        · omega
        · exact h3 ((two_sg c d).2 h)
      by_cases hc : single c = true
      · rw [if_pos hc]
        by_cases e : z = 1
        · exact e.symm
        · exact absurd ((single_sg c).1 hc) (hn 1 (by omega) (by omega) (by simp))
      · rw [if_neg hc]
        rcases h with h | h
        · exact h.symm
        · by_cases e : z = 0
          · exact e.symm
          · obtain rfl : z = 1 := by omega
            exact absurd ((single_sg c).2 h) hc
/-- Two texts are one if their bytes are. -/
theorem text_beq (s : ByteArray) (z : Nat) (l : List UInt8) : ((s.extract 0 z).toList == l) = decide (s.data.toList.take z = l) := by
  rw [Lib.toList_data, Lib.extract_data]
  rw [Bool.eq_iff_iff]
  simp
set_option maxHeartbeats 1000000 in
theorem sign_any (s : ByteArray) (hs : s.size ≤ 1000000) (h0 : 0 < s.size) (w : World) (h : Signs w) :
    Calls Tryz.prog 289 #[.string s] w fun e w' => e = .returned (.int .i64 (sz s.data.toList : Int)) ∧ w = w' := by
  obtain ⟨m, hmd⟩ : ∃ m : Nat, min s.size 2 = m := ⟨_, rfl⟩
  have hm : min (s.size : Int) 2 = (m : Int) := by omega
  have hll : s.data.toList.length = s.size := by rw [Array.length_toList]; rfl
  have hmn : NoSg s.data.toList m := NoSg.start (by omega)
  have HM := Lib.hid (show m ≤ 2 ∧ m ≤ s.size by omega)
  have HL := Lib.hid hll
  have HE := Lib.hid (show s.data.toList ≠ [] by intro e; rw [e] at hll; simp at hll; omega)
  clear hmd hll
  have c0 := h 0 _ rfl
  have c1 := h 1 _ rfl
  have c2 := h 2 _ rfl
  have c3 := h 3 _ rfl
  have c4 := h 4 _ rfl
  have c5 := h 5 _ rfl
  have c6 := h 6 _ rfl
  have c7 := h 7 _ rfl
  have c8 := h 8 _ rfl
  have c9 := h 9 _ rfl
  have c10 := h 10 _ rfl
  have c11 := h 11 _ rfl
  have c12 := h 12 _ rfl
  have c13 := h 13 _ rfl
  have c14 := h 14 _ rfl
  have HH := Lib.hid h
  clear h
  go_enter Tryz.func289, Tryz.ntmps289
  go_wp2
  go_step3
  go_wp2
  go_step3
  go_wp2
  go_loopg [3] m (fun g i wx => i = .int .i64 (g : Int) ∧ Hid (g ≤ m) ∧ Hid (NoSg s.data.toList g) ∧ w = wx)
  case atStart => exact ⟨rfl, Lib.hid (Nat.le_refl _), Lib.hid hmn, rfl⟩
  case round =>
    obtain ⟨rfl, HZ, HN, rfl⟩ := hrel
    cases gk with
    | zero =>
      have H := Lib.hid (sz_is HE.out (Nat.zero_le _) (by omega) (.inl rfl) HN.out)
      clear hmn
      go_wp2
      (try rw [Exit.noGoto_ret])
      go_ret
      exact ⟨ri (by rw [H.out]), rfl⟩
    | succ g =>
      have hg2 := Nat.le_trans HZ.out HM.out.1
      have hgs := Nat.le_trans HZ.out HM.out.2
      have hz1 : decide (0 < ((g : Int) + 1)) = true := decide_eq_true (by omega)
      clear hmn
      go_wp2
      go_loopg [5, 14] 15 (fun g2 a i wx => ∃ j : Nat, j + g2 = 15 ∧ i = .int .i64 (j : Int) ∧ Hid (∀ y l, y < j → sgs[y]? = some l → ¬ s.data.toList.take (g + 1) = l) ∧ w = wx)
      case atStart => exact ⟨0, rfl, rfl, Lib.hid (fun y l hy => absurd hy (Nat.not_lt_zero _)), rfl⟩
      case round =>
        obtain ⟨j, hj, rfl, HJ, rfl⟩ := hrel
        cases gk with
        | zero =>
          obtain rfl : j = 15 := by omega
          have HN2 := Lib.hid (NoSg.less HN.out (fun hm => by
            obtain ⟨y, hy⟩ := List.mem_iff_getElem?.1 hm
            obtain ⟨hy2, _⟩ := List.getElem?_eq_some_iff.1 hy
            exact HJ.out y _ hy2 hy rfl))
          have HZ2 := Lib.hid (Nat.le_of_succ_le HZ.out)
          clear HJ
          go_wp2
          go_roundg g
          case measure => omega
          case rel => exact ⟨by go_num, HZ2, HN2, rfl⟩
        | succ g2 =>
          have hj15 : j < 15 := by omega
          have hlt : decide ((j : Int) < 15) = true := decide_eq_true (by omega)
          obtain ⟨l, hl⟩ : ∃ l, sgs[j]? = some l := ⟨sgs[j]'hj15, List.getElem?_eq_getElem _⟩
          have hidx := sg_at j l hj15 hl w
          have HL2 := Lib.hid hl
          have HT := Lib.hid (text_beq s (g + 1) l)
          clear hl
          by_cases he : s.data.toList.take (g + 1) = l
          · have ht := HT.out
            rw [decide_eq_true he] at ht
            have H := Lib.hid (sz_is HE.out (by rw [HL.out]; exact hgs) hg2 (.inr (by rw [he]; exact List.mem_of_getElem? HL2.out)) HN.out)
            clear he
            go_wp2
            (try rw [Exit.noGoto_ret])
            go_ret
            exact ⟨ri (by rw [H.out]), rfl⟩
          · have ht := HT.out
            rw [decide_eq_false he] at ht
            have HJ2 := Lib.hid (show ∀ y l, y < j + 1 → sgs[y]? = some l → ¬ s.data.toList.take (g + 1) = l from fun y l2 hy h2 => by
              by_cases e : y = j
              · subst e
                rw [HL2.out] at h2
                injection h2 with h2
                exact h2 ▸ he
              · exact HJ.out y l2 (by omega) h2)
            clear he
            go_wp2
            go_roundg g2
            case measure => omega
            case rel => exact ⟨j + 1, by omega, by go_num, HJ2, rfl⟩
end Go.Proofs.YtbdippgamlknbaaGreatDoor.Lx
