/- The greatest parameter of a tree: the program's call (expr.Params). One tree behind a list of the call's own, in a region that draws its order. The document's own way to tell a token's kind: are all bytes of a text, from one on, in a  -/
import Derived.Test.YtbdippgamlknbaaGreatDoorKs22
import Derived.Deep.AppendLies
import Derived.BigQuiet
import Derived.Deep.QuietTactic
import Derived.Test.YtbdippgamlknbaaGreatDoorKs06
import Derived.Test.YtbdippgamlknbaaGreatDoorKs16
import Derived.Test.YtbdippgamlknbaaGreatDoorKs18
namespace Go.Proofs.YtbdippgamlknbaaGreatDoor.Tk
open Go.RowKit Go.Proofs.YtbdippgamlknbaaGreatDoor.Mem Go.Proofs.YtbdippgamlknbaaGreatDoor.Ep Go.Proofs.YtbdippgamlknbaaGreatDoor.Right
set_option linter.unusedVariables false
set_option maxHeartbeats 1000000 in
theorem seenP_any (k o vk vn m : Int) (vs nm : ByteArray) (A : Option Addr) (n c d p : Nat) (w : World) (h : Cel w p Ep.tI #[.int .i64 m]) :
    Calls Tryz.prog 70 #[exV k o vk vn vs nm A n c, .int .i64 (d : Int), .pointer (some ⟨p, 0, none⟩)] w fun e w' => e = .returned (.bool true) ∧ Cel w' p Ep.tI #[.int .i64 (if k = 3 then max m o else m)] ∧ Oth p w w' := by
  have h1 := h.alloc (.cells #[.int .i64 k, .int .i64 o, .int .i64 vk, .int .i64 vn, .string vs, .string nm, .slice A n c] tE)
  have c0 : (w.alloc (.cells #[.int .i64 k, .int .i64 o, .int .i64 vk, .int .i64 vn, .string vs, .string nm, .slice A n c] 26)).cell? ⟨p, 0, none⟩ = some (.int .i64 m) := h1.at_ 0
  have f0 : (w.alloc (.cells #[.int .i64 k, .int .i64 o, .int .i64 vk, .int .i64 vn, .string vs, .string nm, .slice A n c] 26)).frozen? ⟨p, 0, none⟩ = false := h1.open_ 0
  have H := Lib.hid h1
  have HL := Lib.hid h.lt
  clear h1 h
  by_cases hk : k = 3
  · subst hk
    rw [if_pos rfl]
    obtain ⟨M, hM⟩ : ∃ M, max m o = M := ⟨_, rfl⟩
    rw [hM]
    go_enter Tryz.func70, Tryz.ntmps70
    go_wp2
    go_ret
    exact ⟨rfl, H.out.set 0 _, ((Oth.refl p w).alloc (Nat.le_of_lt HL.out) _).set 0 _⟩
  · rw [if_neg hk]
    go_enter Tryz.func70, Tryz.ntmps70
    go_wp2
    go_ret
    exact ⟨rfl, H.out, (Oth.refl p w).alloc (Nat.le_of_lt HL.out) _⟩
set_option maxHeartbeats 4000000 in
theorem walkP_any (p : Nat) : ∀ (e : Ex) (cs : List Value) (d : Nat) (m : Int) (w : World), ExAt w p e cs → Cel w p Ep.tI #[.int .i64 m] → d + size e ≤ 1000000 →
    Calls Tryz.prog 67 #[.agg cs.toArray, .int .i64 (d : Int), .func (.func 70) #[] #[.pointer (some ⟨p, 0, none⟩)]] w fun x w' => x = .returned (.bool true) ∧ Cel w' p Ep.tI #[.int .i64 (parE m e)] ∧ Oth p w w' := by
  refine Ex.byKids fun k o vk vn vs nm kids ih cs d m w h hc hs => ?_
  obtain ⟨A, kn, c, rfl, hkn, -, -, -, hk⟩ := ex_open h
  rw [size] at hs
  rw [parE_mk]
  have hpw := hc.lt
  have hb0 := (Oth.refl p w).alloc (Nat.le_of_lt hpw) (.cells #[.int .i64 k, .int .i64 o, .int .i64 vk, .int .i64 vn, .string (txt vs), .string (txt nm), .slice A kn c] tE)
  have hd : d ≤ 1000000 := by omega
  obtain ⟨M, hM⟩ : ∃ M, (if k = 3 then max m o else m) = M := ⟨_, rfl⟩
  have HV := Lib.hid (hM ▸ seenP_any k o vk vn m (txt vs) (txt nm) A kn c d p (w.alloc (.cells #[.int .i64 k, .int .i64 o, .int .i64 vk, .int .i64 vn, .string (txt vs), .string (txt nm), .slice A kn c] tE)) (hc.alloc _))
  rw [hM]
  have hbox : Cel (w.alloc (.cells #[.int .i64 k, .int .i64 o, .int .i64 vk, .int .i64 vn, .string (txt vs), .string (txt nm), .slice A kn c] tE)) w.heap.size tE #[.int .i64 k, .int .i64 o, .int .i64 vk, .int .i64 vn, .string (txt vs), .string (txt nm), .slice A kn c] := Cel.new w tE _ rfl
  have HX := Lib.hid (fun W (hW : Oth p (w.alloc (.cells #[.int .i64 k, .int .i64 o, .int .i64 vk, .int .i64 vn, .string (txt vs), .string (txt nm), .slice A kn c] tE)) W) => (show W.cell? ⟨w.heap.size, 6, none⟩ = some (.slice A kn c) from (hW.cel (by omega) hbox).at_ 6))
  have HB0 := Lib.hid hb0
  have HK := Lib.hid hk
  have HN := Lib.hid hkn
  have HSZ := Lib.hid hs
  have hkm : kn ≤ 1000000 := by have := sizeL_len kids; omega
  clear hk h hkn hs hb0 hpw hM hc hbox
  go_enter Tryz.func67, Tryz.ntmps67
  go_wp2_with (go_at_call 70; (with_reducible refine HV.out.mono ?_); rintro e' w1 ⟨rfl, hc1, hb1⟩; have HC1 := Lib.hid hc1; have x6 := HX.out _ hb1; have HB1 := Lib.hid (HB0.out.trans hb1); clear hc1 hb1)
  clear x6
  go_loopw [17] (fun i wr => ∃ (j : Nat) (x : Int), j ≤ kn ∧ i = .int .i64 (j : Int) ∧ Hid (x = parL M (kids.take j)) ∧ Hid (Cel wr p Ep.tI #[.int .i64 x]) ∧ Hid (Oth p w wr)) (fun i _ => kn + 1 - (intOf i).toNat)
  case atStart => exact ⟨0, M, Nat.zero_le _, rfl, Lib.hid (by rw [List.take_zero, parL]), HC1, HB1⟩
  case round =>
    obtain ⟨j, x, hj, rfl, HL, HC, HB⟩ := hrel
    by_cases hlt : j < kn
    · obtain ⟨y, hy⟩ := kid_some (l := kids) (j := j) (by have := HN.out; omega)
      obtain ⟨k', o', vk', vn', vs', nm', ks', A', n', c', b, q, e, rfl, hb, hn', c0, c1, c2, c3, c4, c5, c6, hin⟩ := kid_at HK.out hy
      have hsy : size y ≤ sizeL kids := sizeL_mem (kid_mem hy)
      obtain ⟨x2, hx2⟩ : ∃ x2, parE x y = x2 := ⟨_, rfl⟩
      have HI := Lib.hid (fun W (hW : Oth p w W) (hWc : Cel W p Ep.tI #[.int .i64 x]) => (show Calls Tryz.prog 67 #[exV k' o' vk' vn' (txt vs') (txt nm') A' n' c', .int .i64 ((d : Int) + 1), .func (.func 70) #[] #[.pointer (some ⟨p, 0, none⟩)]] W fun x w' => x = .returned (.bool true) ∧ Cel w' p Ep.tI #[.int .i64 x2] ∧ Oth p W w' from by
        rw [← hx2]
        exact ih y (kid_mem hy) _ (d + 1) x W (ExAt.below hin hW.1) hWc (by have := HSZ.out; omega)))
      have HT := Lib.hid (show x2 = parL M (kids.take (j + 1)) by rw [← hx2, HL.out]; exact take_par hy M)
      have c0 := (HB.out.1.cell hb).trans c0
      have c1 := (HB.out.1.cell hb).trans c1
      have c2 := (HB.out.1.cell hb).trans c2
      have c3 := (HB.out.1.cell hb).trans c3
      have c4 := (HB.out.1.cell hb).trans c4
      have c5 := (HB.out.1.cell hb).trans c5
      have c6 := (HB.out.1.cell hb).trans c6
      have hpr := HC.out.lt
      have HBk := Lib.hid (HB.out.alloc (Nat.le_of_lt hpr) (.cells #[.int .i64 k', .int .i64 o', .int .i64 vk', .int .i64 vn', .string (txt vs'), .string (txt nm'), .slice A' n' c'] tE))
      have HCk := Lib.hid (HC.out.alloc (.cells #[.int .i64 k', .int .i64 o', .int .i64 vk', .int .i64 vn', .string (txt vs'), .string (txt nm'), .slice A' n' c'] tE))
      have tl : decide ((j : Int) < (kn : Int)) = true := decide_eq_true (by omega)
      clear hin hn' e hy hx2 hsy hpr
      go_wp2_with (go_at_call 67; (with_reducible refine (HI.out _ HBk.out HCk.out).mono ?_); rintro e' w2 ⟨rfl, hc2, hb2⟩; have HC2 := Lib.hid hc2; have HB2 := Lib.hid (HBk.out.trans hb2); clear hc2 hb2)
      go_roundw
      case rel => exact ⟨j + 1, x2, by omega, by go_num, HT, HC2, HB2⟩
      case measure => simp [intOf]; omega
    · have tl : decide ((j : Int) < (kn : Int)) = false := decide_eq_false (by omega)
      have hd2 : kids.take j = kids := List.take_of_length_le (by have := HN.out; omega)
      rw [hd2] at HL
      go_wp2
      go_ret
      exact ⟨rfl, by rw [← HL.out]; exact HC.out, HB.out⟩
set_option maxHeartbeats 2000000 in
theorem params_any (e : Ex) (cs : List Value) (w : World) (h : ExAt w w.heap.size e cs) (hz : size e ≤ 100000) :
    Calls Tryz.prog 36 #[.agg cs.toArray] w fun x w' => x = .returned (.int .i64 (parE 0 e)) ∧ Below w.heap.size w w' := by
  have hcs := h
  obtain ⟨k, o, vk, vn, vs, nm, kids⟩ := e
  obtain ⟨A, kn, c, rfl, -⟩ := ex_open h
  obtain ⟨e, he⟩ : ∃ e, Ex.mk k o vk vn vs nm kids = e := ⟨_, rfl⟩
  rw [he] at hcs hz ⊢
  clear he h
  have hb : Below w.heap.size w ((w.alloc (.cells #[.int .i64 k, .int .i64 o, .int .i64 vk, .int .i64 vn, .string (txt vs), .string (txt nm), .slice A kn c] tE)).alloc (.cells #[.int .i64 0] Ep.tI)) := al (al (Below.refl _ _) _) _
  have hp : Cel ((w.alloc (.cells #[.int .i64 k, .int .i64 o, .int .i64 vk, .int .i64 vn, .string (txt vs), .string (txt nm), .slice A kn c] tE)).alloc (.cells #[.int .i64 0] Ep.tI)) (w.heap.size + 1) Ep.tI #[.int .i64 0] := Cel.new _ Ep.tI _ (by simp)
  have hx := walkP_any (w.heap.size + 1) e _ 1 0 _ (ExIn.to (fun b hb' => by omega) (fun q hq' => hb.cell hq') e _ hcs) hp (by omega)
  rw [show ((1 : Nat) : Int) = 1 from rfl] at hx
  have HX := Lib.hid hx
  have HB := Lib.hid hb
  clear hcs hb hp hx hz
  go_enter Tryz.func36, Tryz.ntmps36
  go_wp2_with (go_at_call 67; (with_reducible refine HX.out.mono ?_); rintro e' w2 ⟨rfl, hc2, hb2⟩; have z0 := hc2.at_ 0; have HB2 := Lib.hid (HB.out.trans (hb2.1.mono (by omega))); clear hc2 hb2)
  go_ret
  exact ⟨rfl, HB2.out⟩
end Go.Proofs.YtbdippgamlknbaaGreatDoor.Tk
namespace Go.Proofs.YtbdippgamlknbaaGreatDoor.Ep
open Go.RowKit Go.Proofs.YtbdippgamlknbaaGreatDoor.Mem Go.Proofs.YtbdippgamlknbaaGreatDoor.Right Go.Deep
set_option linter.unusedVariables false
/-- One tree behind the pile, in a region that draws. -/
theorem step_tree {P : Program} {w1 : World} {v : Value} {l : List Ex} {x : Ex} {cs : List Value} {S : Nat → Prop} {base g n : Nat} {t te tc : TypeId} {bytes : Nat} (E : ElemK P t te 7 bytes) (hown : OwnT w1 base te S v l) (hx : ExIn w1 S x cs)
    {fr : Nat × Nat} {ops : Array Oper} {o : Oper} {a : Act} {K : Act → World → Prop} {Q : Exit → Act → World → Prop} {F : Prop} (s y : Operand)
    (hgd : o.guard = none) (ho : o.op = .call { callee := .builtin .append, args := #[s, y], argTypes := #[t, t] })
    (hs : a.eval s = v) (hy : a.eval y = .slice (some ⟨g, 0, none⟩) 1 1) (hrow : w1.heap[g]? = some (.cells cs.toArray tc fr)) (hS : ∀ b, S b → b < w1.heap.size ∧ some b ≠ v.ownBlock) (hn : l.length = n) (hb : (n + 1) * bytes ≤ 140737488355328) (hm : n + 1 ≤ maxLen) (hB : base ≤ w1.heap.size)
    (k : ∀ g' cap w', OwnT w' base te S (.slice (some ⟨g', 0, none⟩) (n + 1) cap) (l ++ [x]) → w1.grownBy w' v.ownBlock → (v.ownBlock = some g' ∨ g' = w1.heap.size) → g' < w'.heap.size → K (a.put o.dst (.slice (some ⟨g', 0, none⟩) (n + 1) cap)) w') :
    if Region.wanted o (yielded ops a.tmps) = true then Oper.wp P o a w1 K Q else F := by
  subst hn
  obtain ⟨i, z, ht, hi, hz, hz1, hz2, hzc, _⟩ := E
  obtain ⟨css, hl, h7, hrow1, hcs⟩ := hown
  rw [List.length_map] at hl
  have h1 : w1.ownsRow base te 7 v l.length css.flatten := by
    rw [List.length_map] at hrow1; exact hrow1
  refine step_append_lies _ hgd s y t ho base te i z 7 bytes ht hi hz hz1 hz2 hzc (by decide) v l.length css.flatten hs h1 ⟨g, 0, none⟩ 1 1 cs hy (by rw [hx.len]) (by have := World.news_of_block hrow; simpa using this) hx.one (by decide) hm hb hB w1.heap.size rfl fun g' cap w' g1 g2 g3 g4 => ?_
  refine k g' cap w' ⟨css ++ [cs], by simp [hl], fun c hc => ?_, ?_, fun j d cs' he hc' => ?_⟩ g2 g3 g4
  · rcases List.mem_append.1 hc with hc | hc
    · exact h7 c hc
    · rw [List.mem_singleton.1 hc]; exact hx.len
  · rw [show ((l ++ [x]).map exDt).length = l.length + 1 by simp, show (css ++ [cs]).flatten = css.flatten ++ cs by simp]
    exact g1
  · have hfar : ∀ p : Addr, S p.block → w'.cell? p = w1.cell? p := fun p hp => World.cell?_of_block (g2.block p.block (hS _ hp).1 (hS _ hp).2)
    rw [List.map_append] at he
    rcases Nat.lt_or_ge j l.length with hj | hj
    · rw [List.getElem?_append_left (by rw [List.length_map]; exact hj)] at he
      rw [List.getElem?_append_left (by omega)] at hc'
      exact DtIn.to (fun _ h => h) hfar d cs' (hcs j d cs' he hc')
    · rw [List.getElem?_append_right (by rw [List.length_map]; exact hj), List.length_map] at he
      rw [List.getElem?_append_right (by omega), hl] at hc'
      have hj0 : j - l.length = 0 := by
        have := (List.getElem?_eq_some_iff.1 he).1
        simp at this; omega
      rw [hj0] at he hc'
      simp at he hc'
      subst he hc'
      exact DtIn.to (fun _ h => h) hfar _ _ hx
end Go.Proofs.YtbdippgamlknbaaGreatDoor.Ep
namespace Go.Proofs.YtbdippgamlknbaaGreatDoor.Lx
open Go.RowKit Go.Proofs.YtbdippgamlknbaaGreatDoor.Mem Go.Proofs.YtbdippgamlknbaaGreatDoor.Right
set_option linter.unusedVariables false
def inS (l : List UInt8) (c : UInt8) : Bool := decide (c ∈ l)
theorem inS_snoc (l : List UInt8) (x c : UInt8) : inS (l ++ [x]) c = (inS l c || decide (x = c)) := by
  unfold inS
  by_cases h1 : c ∈ l <;> by_cases h2 : x = c <;> simp [h1, h2]
  all_goals first | (subst h2; simp) | (intro h; exact absurd h.symm h2)
theorem inS_contains (l : List UInt8) (c : UInt8) : inS l c = l.contains c := by unfold inS; simp
theorem all_from {p : UInt8 → Bool} {l : List UInt8} {n : Nat} : (l.drop n).all p = true ↔ ∀ i c, n ≤ i → l[i]? = some c → p c = true := by
  rw [List.all_eq_true]
  constructor
  · intro h i c hi hc
    refine h c (List.mem_iff_getElem?.2 ⟨i - n, ?_⟩)
    rw [List.getElem?_drop, show n + (i - n) = i by omega]
    exact hc
  · intro h c hc
    obtain ⟨i, hi⟩ := List.mem_iff_getElem?.1 hc
    rw [List.getElem?_drop] at hi
    exact h (n + i) c (by omega) hi
theorem byte_at (s : ByteArray) (k : Nat) (h : k < s.size) : s.data.toList[k]? = some s[k] := by
  rw [Array.getElem?_toList]
  exact Array.getElem?_eq_getElem h
theorem beq_bytes (a b : UInt8) : ((a.toNat : Int) == (b.toNat : Int)) = decide (a = b) := by
  by_cases h : a = b
  · subst h; simp
  · rw [decide_eq_false h]
    exact beq_no fun e => h (UInt8.toNat_inj.1 (by omega))
theorem drewN_below {B : Nat} {w a : World} (h : Below B w a) (n : Nat) : Below B w (a.drewN n) := h.trans ⟨rfl, rfl, rfl, Nat.le_refl _, fun _ _ => rfl⟩
set_option maxHeartbeats 4000000 in
theorem all_any (s z : ByteArray) (n : Nat) (hs : s.size ≤ 1000000) (hz : z.size ≤ 1000) (hn : n ≤ 1000000) (w : World) :
    Calls Tryz.prog 230 #[.string s, .int .i64 (n : Int), .string z] w fun e w' => e = .returned (.bool ((s.data.toList.drop n).all (inS z.data.toList))) ∧ Below w.heap.size w w' := by
  go_enter Tryz.func230, Tryz.ntmps230
  go_wp2
  go_loopw [7] (fun i wr => ∃ k : Nat, n ≤ k ∧ k ≤ 1000000 ∧ i = .int .i64 (k : Int) ∧ Hid (∀ i c, n ≤ i → i < k → s.data.toList[i]? = some c → inS z.data.toList c = true) ∧ Hid (Below w.heap.size w wr)) (fun i _ => 1000001 - (intOf i).toNat)
  case atStart => exact ⟨n, Nat.le_refl _, hn, rfl, Lib.hid (fun i c h1 h2 => by omega), Lib.hid (Below.refl _ _)⟩
  case round =>
    obtain ⟨k, hk, hk6, rfl, HA, HB⟩ := hrel
    by_cases hlt : k < s.size
    · have tl : decide ((k : Int) < (s.size : Int)) = true := decide_eq_true (by omega)
      obtain ⟨c, hc⟩ : ∃ c, s[k] = c := ⟨_, rfl⟩
      have HC := Lib.hid (show s.data.toList[k]? = some c by rw [byte_at s k hlt, hc])
      go_wp2
      go_loopw [8, 9] (fun b i wr => ∃ (j : Nat) (x : Bool), j ≤ z.size ∧ b = .bool x ∧ i = .int .i64 (j : Int) ∧ Hid (x = inS (z.data.toList.take j) c) ∧ Hid (Below w.heap.size w wr)) (fun _ i _ => z.size + 1 - (intOf i).toNat)
      case atStart => exact ⟨0, false, Nat.zero_le _, rfl, rfl, Lib.hid (by rw [List.take_zero]; rfl), HB⟩
      case round =>
        obtain ⟨j, x, hj, rfl, rfl, HX, HB2⟩ := hrel
        by_cases hlj : j < z.size
        · have tj : decide ((j : Int) < (z.size : Int)) = true := decide_eq_true (by omega)
          obtain ⟨d, hd⟩ : ∃ d, z[j] = d := ⟨_, rfl⟩
          have HS := Lib.hid (show inS (z.data.toList.take (j + 1)) c = (x || decide (d = c)) by rw [take_snoc z j hlj, inS_snoc, ← HX.out, hd])
          cases x with
          | true =>
            go_wp2
            go_quiet (fail)
            go_wp2
            go_roundw
            case rel => exact ⟨j + 1, true, by omega, rfl, by go_num, Lib.hid (by rw [HS.out]; rfl), Lib.hid (drewN_below HB2.out _)⟩
            case measure => simp [intOf]; omega
          | false =>
            have tb : ((d.toNat : Int) == (c.toNat : Int)) = decide (d = c) := beq_bytes d c
            obtain ⟨y, hy⟩ : ∃ y, decide (d = c) = y := ⟨_, rfl⟩
            rw [hy] at tb
            have HS := Lib.hid (show inS (z.data.toList.take (j + 1)) c = y by rw [HS.out, hy]; rfl)
            clear hy
            go_wp2
            go_quiet (fail)
            go_wp2
            go_roundw
            case rel => exact ⟨j + 1, y, by omega, rfl, by go_num, Lib.hid HS.out.symm, Lib.hid (drewN_below HB2.out _)⟩
            case measure => simp [intOf]; omega
        · have tj : decide ((j : Int) < (z.size : Int)) = false := decide_eq_false (by omega)
          have HF := Lib.hid (show x = inS z.data.toList c by rw [HX.out, List.take_of_length_le (by rw [Array.length_toList]; exact Nat.le_of_not_lt hlj)])
          cases x with
          | true =>
            go_wp2
            go_roundw
            case rel => exact ⟨k + 1, by omega, by omega, by go_num, Lib.hid (fun i c' h1 h2 h3 => by
              by_cases e : i = k
              · subst e
                rw [HC.out] at h3
                injection h3 with h3
                rw [← h3]; exact HF.out.symm
              · exact HA.out i c' h1 (by omega) h3), HB2⟩
            case measure => simp [intOf]; omega
          | false =>
            have HN := Lib.hid (show (s.data.toList.drop n).all (inS z.data.toList) = false by
              rw [Bool.eq_false_iff]
              intro h
              have := all_from.1 h k c hk HC.out
              rw [← HF.out] at this
              cases this)
            go_wp2
            go_ret
            exact ⟨rb HN.out.symm, HB2.out⟩
    · have tl : decide ((k : Int) < (s.size : Int)) = false := decide_eq_false (by omega)
      have HY := Lib.hid (show (s.data.toList.drop n).all (inS z.data.toList) = true from all_from.2 fun i c h1 h3 => HA.out i c h1 (by have := (List.getElem?_eq_some_iff.1 h3).1; rw [Array.length_toList] at this; exact Nat.lt_of_lt_of_le this (Nat.le_of_not_lt hlt)) h3)
      go_wp2
      go_ret
      exact ⟨rb HY.out.symm, HB.out⟩
end Go.Proofs.YtbdippgamlknbaaGreatDoor.Lx
