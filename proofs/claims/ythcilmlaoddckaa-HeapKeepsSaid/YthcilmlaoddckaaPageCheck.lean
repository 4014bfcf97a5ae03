/- A page is a page: Check, checkData, Room. -/
import Derived.Test.YthcilmlaoddckaaPageParts
import Derived.Test.YthcilmlaoddckaaPageBlank
import Derived.Test.YthcilmlaoddckaaPageFind
namespace Go.Proofs.Ythcilmlaoddckaa.Pg
open Go.RowKit Go.Proofs.Ythcilmlaoddckaa.Mem Go.Proofs.Ythcilmlaoddckaa.Right
set_option linter.unusedVariables false
attribute [local go_sem] Oper.semAt_some

set_option maxRecDepth 100000 in
set_option maxHeartbeats 2000000 in
theorem check_any (A : Option Addr) (c : Nat) (S : List Sl) (w : World) (h : Pag w A c S) (hlst : lst S = S.length) :
    Calls Try.prog 46 #[.slice A 512 c] w fun e w' => e = .returned (.int .i64 0) ∧ Below w.heap.size w w' := by
  have HC : Hid (∀ W', Below w.heap.size w W' → Calls Try.prog 63 #[.slice A 512 c] W' fun e w' => e = .returned (.int .i64 (S.length : Int)) ∧ Below W'.heap.size W' w') := Lib.hid fun W' hW' => (count_any A c S W' (h.below hW')).mono fun e w' ⟨a, q, b⟩ => ⟨a, by rw [b]; exact below_drewN (Below.refl _ _) q⟩
  have HU : Hid (∀ W', Below w.heap.size w W' → Calls Try.prog 64 #[.slice A 512 c] W' fun e w' => e = .returned (.int .i64 (S.length : Int)) ∧ Below W'.heap.size W' w') := Lib.hid fun W' hW' => (used_any A c S W' (h.below hW')).mono fun e w' ⟨a, b⟩ => ⟨by rw [a, hlst], b⟩
  have hS := h.2
  have hr := hS.room
  have hn255 : (S.length : Int) ≤ 255 := by omega
  refine (callsIn_wide (n := 5)).1 ?_
  refine callsIn_of_wp_marks Try.func46 rfl trivial ?_ rfl
  simp only [Try.ntmps46, List.size_toArray, List.length_cons, List.length_nil, Nat.reduceAdd, Nat.reduceSub, Array.replicate_succ, Array.replicate_zero, List.push_toArray, List.append_toArray, List.nil_append, List.cons_append]
  have td : decide (255 < (S.length : Int)) = false := decide_eq_false (by omega)
  have HB0 := Lib.hid (al (Below.refl w.heap.size w) (.cells #[.int .i64 0] 48))
  have HZ0 := Lib.hid (Cel.new w 48 #[.int .i64 0] rfl)
  gi_wp2_with first | (refine ⟨trivial, ?_⟩; gi_at_call 63; refine (callsIn_wide.2 (HC.out _ HB0.out)).mono ?_; rintro e w1 ⟨rfl, hb1⟩; have HB1 := Lib.hid (on HB0.out hb1); have HZ1 := Lib.hid (HZ0.out.below hb1); clear hb1) | (refine ⟨trivial, ?_⟩; gi_at_call 64; refine (callsIn_wide.2 (HU.out _ HB1.out)).mono ?_; rintro e w2 ⟨rfl, hb2⟩; have HB2 := Lib.hid (on HB1.out hb2); have HZ2 := Lib.hid (HZ1.out.below hb2); clear hb2) | (refine ⟨trivial, ?_⟩; gi_at_call 63; refine (callsIn_wide.2 (HC.out _ HB2.out)).mono ?_; rintro e w3 ⟨rfl, hb3⟩; have HB3 := Lib.hid (on HB2.out hb3); have HZ3 := Lib.hid (HZ2.out.below hb3); clear hb3) | (refine ⟨trivial, ?_⟩; gi_at_call 62; refine (callsIn_wide.2 (spots_any _ _ _ _)).mono ?_; rintro e w' ⟨rfl, rfl⟩)
  have hlt3 : w.heap.size < w3.heap.size := blk_lt HZ3.out
  have bP := Boxed.new w3 32 (.slice A 512 c)
  have hB4 := al HB3.out (.cells #[.slice A 512 c] 32)
  refine wp_spots (by omega) w3.heap.size w.heap.size A c S hS bP (by simp; omega) (h.1.1.below hB4 (Nat.le_refl _)) h.1.2.2 rfl rfl
    (fun pre W => Cel W w.heap.size 48 #[.int .i64 0] ∧ Below w.heap.size w W) (fun _ _ _ => False)
    (OwnFrom.and (Own.from (fun s X Y row hs hg hr => Cel.own hs hg hr) _) (ownFrom_below (Nat.le_refl _) (by simp; omega)))
    (fun _ _ _ _ _ hs _ _ => hs) ⟨HZ3.out.alloc _, hB4⟩ w.heap.size (Nat.le_refl _) (fun pre W hi => hi.2.size)
    (fun x Bx => { tmps := #[.slice A 512 c, undef, .pointer (some ⟨w.heap.size, 0, none⟩), undef, .pointer (some ⟨Bx, 0, none⟩), undef, undef, .slice A 512 c, .int .i64 512, .bool false, .bool false, .slice A 512 c, .int .i64 (S.length : Int), .bool false, .bool false, .bool false, .slice A 512 c, .int .i64 (S.length : Int), .slice A 512 c, .int .i64 (S.length : Int), .bool false, .bool false, .slice A 512 c, .func (.func 71) #[] #[.pointer (some ⟨w3.heap.size, 0, none⟩)], .int .i64 (x.1 : Int), .agg #[.bool (full S x.1), .int .i64 (to_ S (x.1 + 1) : Nat), .int .i64 (to_ S x.1 : Nat)], undef, undef, undef, undef, undef, undef, undef, undef, undef, undef, undef, undef, undef, undef, undef, undef, undef, undef, undef], defers := [] }) ?assign ?body ?done ?stop
  case assign =>
    intro l x W K hK
    simp only [spv]
    gi_wp2
    exact hK
  case body =>
    rintro l pre x Bx W hBx ⟨hz, hB⟩ hs _
    obtain ⟨c0, c1, c2⟩ := hs.cells
    have hsx : S[x.1]? = some S[x.1] := List.getElem?_eq_getElem x.2
    have hln := hS.to_ln hsx
    have hl5 := hS.at_ hsx
    have HS := Lib.hid (size_any (full S x.1) (to_ S (x.1 + 1)) (to_ S x.1) (by omega) (to_le _ _) W)
    have td2 : decide (255 < ((to_ S x.1 - to_ S (x.1 + 1) : Nat) : Int)) = false := decide_eq_false (by omega)
    clear hsx hln hl5
    gi_wp2_with (refine ⟨trivial, ?_⟩; gi_at_call 51; refine (CallsIn.inRound l (callsIn_wide.2 HS.out)).mono ?_; rintro e w5 ⟨rfl, hb5⟩; have HB5 := Lib.hid hb5; clear hb5)
    exact ⟨KeepsFrom.of_grownBy (grown_below (r := none) HB5.out) (fun _ h => by cases h), ⟨HB5.out.mono hB.size, fun j cs t fr _ _ hu => (HB5.out.block j (blk_lt hu)).trans hu⟩, hz.below HB5.out, on hB HB5.out⟩
  case done =>
    rintro D W hD ⟨hz, hB⟩ hK
    obtain ⟨b, o, rfl, _⟩ := h.some_
    have hc := h.1.2
    have hgap := pg_gap hS
    obtain ⟨F, hF⟩ : ∃ F, 2 * (S.length + 1) = F := ⟨_, rfl⟩
    obtain ⟨T, hT⟩ : ∃ T, 512 - tot S = T := ⟨_, rfl⟩
    have hFT : F ≤ T := by omega
    have hT5 : T ≤ 512 := by omega
    have HG := Lib.hid (gap_any (some ⟨b, o, none⟩) c S W (h.below hB))
    rw [hF, hT] at HG hgap
    obtain ⟨o', ho', hsl⟩ := slice_two b o 512 c F T F T rfl rfl hFT (by omega)
    have HL : Hid (∀ W', Below W.heap.size W W' → Calls Try.prog 66 #[.slice (some ⟨b, o', none⟩) (T - F) (c - F)] W' fun e w' => e = .returned (.bool true) ∧ Below W'.heap.size W' w') := Lib.hid fun W' hW' => by
      have hp := bs_part ((h.below hB).below hW').1 hFT hT5 ho'
      rw [hgap] at hp
      exact blank_any _ _ _ W' hp
    have td3 : decide ((T : Int) < (F : Int)) = false := decide_eq_false (by omega)
    have HBW := Lib.hid hB
    clear hF hT hgap ho' hB h hr hc HC HU
    gi_wp2_with first | (refine ⟨trivial, ?_⟩; gi_at_call 65; refine (callsIn_wide.2 HG.out).mono ?_; rintro e w6 ⟨rfl, hb6⟩; have HB6 := Lib.hid hb6; clear hb6) | (refine ⟨trivial, ?_⟩; gi_at_call 66; refine (callsIn_wide.2 (HL.out _ HB6.out)).mono ?_; rintro e w7 ⟨rfl, hb7⟩; have HB7 := Lib.hid (on HB6.out hb7); have HZ7 := Lib.hid (hz.below HB7.out); obtain ⟨z0, z1⟩ := HZ7.out.one; clear hb7)
    have q1 := HZ7.out.set 0 (.int .i64 0)
    have hK7 := (HB7.out.block D (blk_lt hK)).trans hK
    have hK' := (KeepsOthers.setCell w7 ⟨w.heap.size, 0, none⟩ (.int .i64 0)).same D _ hK7 rfl
    have hB' := (HBW.out.trans (HB7.out.mono HBW.out.size)).setCell (p := ⟨w.heap.size, 0, none⟩) (Nat.le_refl _) (.int .i64 0)
    have k1 := (q1.own (grownBy_putObj' _ D (.deferred none)) (fun r e => by cases e; exact ⟨_, hK', rfl⟩)).one.1
    refine ⟨by simp, .inl ⟨_, _, rfl, run_takeDeferred hK', ?_⟩⟩
    refine ⟨.int .i64 0, ?_, rfl, fin_below hB' (by simp at hD; omega) hK' rfl rfl⟩
    have k1' : ((w7.setCell ⟨w.heap.size, 0, none⟩ (.int .i64 0)).putObj D (.deferred none)).cell? ⟨w.heap.size, 0, none⟩ = some (.int .i64 0) := k1
    simp only [results, Try.f46]
    simp [go_sem, k1']
  case stop =>
    rintro D c k W _ _ h _
    exact h.elim
/-- A page that is one. -/
def Good (w : World) (A : Option Addr) (c : Nat) (S : List Sl) : Prop := Bs w A 512 c (pg S) ∧ Ok S
theorem Good.pag {w : World} {A : Option Addr} {c : Nat} {S : List Sl} (h : Good w A c S) : Pag w A c S := ⟨h.1, h.2.fit⟩
theorem Good.below {w w' : World} {A : Option Addr} {c : Nat} {S : List Sl} (h : Good w A c S) (hb : Below w.heap.size w w') : Good w' A c S := ⟨h.1.below hb, h.2⟩
theorem check_got (A : Option Addr) (c : Nat) (S : List Sl) (w : World) (h : Good w A c S) :
    Calls Try.prog 46 #[.slice A 512 c] w fun e w' => e = .returned (.int .i64 0) ∧ Below w.heap.size w w' := check_any A c S w h.pag h.2.last
theorem checkData_any (A A2 : Option Addr) (c m c2 : Nat) (S : List Sl) (w : World) (h : Good w A c S) :
    Calls Try.prog 50 #[.slice A 512 c, .slice A2 m c2] w fun e w' => e = .returned (.int .i64 (if m ≤ 255 then 0 else 3)) ∧ Below w.heap.size w w' := by
  have HC := Lib.hid (check_got A c S w h)
  clear h
  by_cases hm : m ≤ 255
  · have td : decide (255 < (m : Int)) = false := decide_eq_false (by omega)
    go_enter Try.func50, Try.ntmps50
    go_wp2_with (go_at_call 46; (with_reducible refine HC.out.mono ?_); rintro e w1 ⟨rfl, hb1⟩; have HB1 := Lib.hid hb1; clear hb1)
    go_ret
    exact ⟨ri (by simp), HB1.out⟩
  · have td : decide (255 < (m : Int)) = true := decide_eq_true (by omega)
    go_enter Try.func50, Try.ntmps50
    go_wp2_with (go_at_call 46; (with_reducible refine HC.out.mono ?_); rintro e w1 ⟨rfl, hb1⟩; have HB1 := Lib.hid hb1; clear hb1)
    go_ret
    exact ⟨ri (by simp), HB1.out⟩
end Go.Proofs.Ythcilmlaoddckaa.Pg
