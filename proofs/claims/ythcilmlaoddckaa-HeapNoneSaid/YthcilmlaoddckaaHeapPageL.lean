import Derived.Test.YthcilmlaoddckaaHeapMem
import Derived.Test.YthcilmlaoddckaaPageRefs
import Derived.Deep.QuietTactic
import Derived.BigQuiet
import Derived.Laws.ResultCell
import Derived.Deep.RegionHeld3
/- Lists of pages: a copy; with another page at a number; up to the last page with slots; the page of a number. -/
namespace Go.Proofs.Ythcilmlaoddckaa.Pg
open Go.RowKit Go.Proofs.Ythcilmlaoddckaa.Mem Go.Proofs.Ythcilmlaoddckaa.Right
set_option linter.unusedVariables false

/-- A list of pages that the call made, and that reads as these. -/
def CopyP (w : World) (L : List (List Sl)) (v : Value) (w' : World) : Prop := ∃ rs : List Pp, rs.length = L.length ∧ MadeP w v rs w' ∧ Goods w rs L
theorem CopyP.pl {w w' : World} {L : List (List Sl)} {v : Value} (h : CopyP w L v w') : ∃ A c, v = .slice A L.length c ∧ PL w' A L.length c L := by
  obtain ⟨rs, h1, h2, h3⟩ := h
  exact h2.pl h1 (h3.below h2.2)
theorem clonep_any (A : Option Addr) (n c : Nat) (L : List (List Sl)) (w : World) (h : PL w A n c L) (hn : n ≤ 2000) :
    Calls Try.prog 54 #[.slice A n c] w fun e w' => ∃ v, e = .returned v ∧ CopyP w L v w' := by
  have heq : ∀ wx : World, (binOp .eql 53 (.slice A n c) (.slice none 0 0)).run Try.prog wx = .ok (.bool A.isNone) wx := fun wx => Lib.run_eql_slice_nil wx _ _ _ _ _ _ _ Try.underlying53
  obtain ⟨rs, h1, h2, h3, h4, h5, h6, h7, h8⟩ := h
  cases A with
  | none =>
    obtain rfl := h6 rfl
    obtain rfl : n = 0 := by omega
    obtain rfl := List.eq_nil_of_length_eq_zero h2
    obtain rfl := List.eq_nil_of_length_eq_zero h1
    have HQ := heq
    simp only [Option.isNone] at HQ
    clear heq h3
    go_enter Try.func54, Try.ntmps54
    go_wp2
    go_ret
    exact ⟨_, rfl, [], rfl, MadeP.start (Below.refl _ _), h8⟩
  | some ad =>
    have HQ := heq
    simp only [Option.isNone] at HQ
    have HR : Hid (Row (w.alloc (.cells #[] 32)) w.heap.size (some ad) (rs.map pv)) := Lib.hid (h3.below (al (Below.refl _ _) _) (Nat.le_refl _))
    have HL : Hid ((rs.map pv).length = n) := Lib.hid (by rw [List.length_map]; exact h1)
    have H0 : Hid ((w.alloc (.cells #[] 32)).ownsRow w.heap.size 32 1 (.slice (some ⟨w.heap.size, 0, none⟩) 0 0) 0 []) := Lib.hid ⟨rfl, .inr ⟨w.heap.size, 0, #[], rfl, Nat.le_refl _, heap_alloc_new w _, Nat.le_refl _, by decide, rfl, rfl⟩⟩
    have HG := Lib.hid h8
    have H1 := Lib.hid h1
    have H2 := Lib.hid h2
    have HO := Lib.hid (pv_one rs)
    have HZ : Hid (w.heap.size ≤ (w.alloc (.cells #[] 32)).heap.size) := Lib.hid (by simp)
    have HN1 : Hid (0 + n ≤ 9223372036854775807) := Lib.hid (by omega)
    have HN2 : Hid ((0 + n) * 24 ≤ 140737488355328) := Lib.hid (by omega)
    clear heq h1 h2 h3 h4 h5 h6 h7 h8 hn
    go_enter Try.func54, Try.ntmps54
    go_wp2_with (at_builtin; refine wp_many elem_pages w.heap.size (.tmp 5) (.tmp 6) rfl rfl rfl H0.out rfl HR.out HL.out (fun e => by cases e) HO.out HN1.out HN2.out HZ.out ?_; intro v' w' g1 g2 g3; have HM := Lib.hid g1; have HB := Lib.hid g2; clear g1 g2 g3)
    go_ret
    refine ⟨_, rfl, rs, by rw [H1.out, H2.out], ⟨?_, ?_⟩, HG.out⟩
    · have := HM.out
      rw [Nat.zero_add, List.nil_append] at this
      rw [H1.out]; exact this
    · exact (al (Below.refl _ _) (.cells #[] 32)).grown HB.out (by simp) (fun k hk => by cases hk; exact Nat.le_refl _)
theorem goods_more {w : World} {rs : List Pp} {L : List (List Sl)} {A : Option Addr} {c : Nat} {S : List Sl} (h : Goods w rs L) (hl : rs.length = L.length) (hg : Good w A c S) : Goods w (rs ++ [(A, c)]) (L ++ [S]) := fun k r T h1 h2 => by
  rcases Nat.lt_or_ge k L.length with hk | hk
  · rw [List.getElem?_append_left (by omega)] at h1
    rw [List.getElem?_append_left hk] at h2
    exact h k r T h1 h2
  · rw [List.getElem?_append_right (by omega), hl] at h1
    rw [List.getElem?_append_right hk] at h2
    obtain ⟨e, rfl⟩ : k - L.length = 0 ∧ (A, c) = r := by
      cases hj : k - L.length with
      | zero => rw [hj] at h1; simp at h1; exact ⟨rfl, h1⟩
      | succ j => rw [hj] at h1; simp at h1
    rw [e] at h2
    simp at h2
    subst h2
    exact hg
theorem goods_set {w : World} {rs : List Pp} {L : List (List Sl)} {A : Option Addr} {c k : Nat} {S : List Sl} (h : Goods w rs L) (hg : Good w A c S) : Goods w (rs.set k (A, c)) (L.set k S) := fun j r T h1 h2 => by
  rw [List.getElem?_set] at h1 h2
  by_cases e : k = j
  · rw [if_pos e] at h1 h2
    split at h1
    · split at h2
      · injection h1 with h1
        injection h2 with h2
        subst h1 h2
        exact hg
      · cases h2
    · cases h1
  · rw [if_neg e] at h1 h2
    exact h j r T h1 h2
theorem MadeP.set {w w' : World} {g n c k : Nat} {rs : List Pp} (r : Pp) (h : MadeP w (.slice (some ⟨g, 0, none⟩) n c) rs w') (hn : rs.length = n) (hk : k < n) (hg : w.heap.size ≤ g) :
    MadeP w (.slice (some ⟨g, 0, none⟩) n c) (rs.set k r) (w'.setCell ⟨g, k, none⟩ (.slice r.1 512 r.2)) := by
  subst hn
  have s1 := h.1.stored k (.slice r.1 512 r.2)
  refine ⟨?_, h.2.setCell (p := ⟨g, k, none⟩) hg _⟩
  rw [List.map_set, List.length_set]
  exact s1.1
theorem MadeP.at_ {w w' : World} {g n c k : Nat} {rs : List Pp} (h : MadeP w (.slice (some ⟨g, 0, none⟩) n c) rs w') (hn : rs.length = n) (hk : k < n) :
    (∃ x, w'.cell? ⟨g, k, none⟩ = some x) ∧ w'.frozen? ⟨g, k, none⟩ = false := by
  subst hn
  rcases h.1.2 with ⟨hv, h1⟩ | ⟨g', cap, cur, hv, hB, hg, hc, _, hsz, _⟩
  · cases hv
  · injection hv with hv1 hv2 hv3
    injection hv1 with hv1
    injection hv1 with hv1
    subst hv1
    refine ⟨⟨cur[k]'(by omega), ?_⟩, by simp [World.frozen?, hg]⟩
    rw [cell_of_row _ _ _ _ _ _ hg, Array.getElem?_eq_getElem]
/-- Pages with another one at a number. -/
theorem with_any (A A2 : Option Addr) (n c c2 k : Nat) (L : List (List Sl)) (S : List Sl) (w : World) (h : PL w A n c L) (hn : n ≤ 2000) (hk : k ≤ n) (hg : Good w A2 c2 S) :
    Calls Try.prog 33 #[.slice A n c, .int .i64 (k : Int), .slice A2 512 c2] w fun e w' => ∃ A' c', e = .returned (.slice A' (setP L k S).length c') ∧ PL w' A' (setP L k S).length c' (setP L k S) ∧ Below w.heap.size w w' := by
  have hl := h.len
  have HC := Lib.hid (clonep_any A n c L w h hn)
  have HG := Lib.hid hg
  by_cases e : k = n
  · subst e
    have HL := Lib.hid (show setP L k S = L ++ [S] by rw [← hl]; exact setP_end)
    have HN : Hid (L.length ≤ 2000) := Lib.hid (by omega)
    have HE : Hid (L.length = k) := Lib.hid hl
    clear h hg hl
    go_enter Try.func33, Try.ntmps33
    go_wp2_with first | (go_at_call 54; (with_reducible refine HC.out.mono ?_); rintro e w1 ⟨v, rfl, rs, h1, h2, h3⟩; rw [HE.out] at h1; obtain ⟨A1, c1, rfl, q1, q2, q3⟩ := h2.slice; rw [h1] at h2 ⊢; have HM := Lib.hid h2; have H1 := Lib.hid h1; have H3 := Lib.hid h3; have HN1 : Hid (rs.length ≤ 2000) := Lib.hid (by omega); clear h1 h2 h3 q1 q2 q3) | (at_builtin; go_loud (refine wp_page (.tmp 14) (.tmp 16) rfl rfl rfl HM.out rfl HN1.out ?_; intro v' w2 m2 _; have HM2 := Lib.hid m2; clear m2))
    go_ret
    rw [HL.out]
    have h5 : CopyP w (L ++ [S]) v' w2 := ⟨rs ++ [(A2, c2)], by simp; rw [H1.out, HE.out], HM2.out, goods_more H3.out (by rw [H1.out, HE.out]) HG.out⟩
    obtain ⟨A', c', rfl, hp⟩ := h5.pl
    exact ⟨A', c', rfl, hp, HM2.out.2⟩
  · have HL := Lib.hid (show setP L k S = L.set k S from setP_lt (by omega))
    have HN : Hid (L.length ≤ 2000) := Lib.hid (by omega)
    have HE : Hid (L.length = n) := Lib.hid hl
    have e' : ¬ (k : Int) = (n : Int) := by omega
    have hkn : k < n := by omega
    have hlt' : (k : Int) < (n : Int) := by omega
    clear h hg hl
    go_enter Try.func33, Try.ntmps33
    go_wp2_with first | (go_at_call 54; (with_reducible refine HC.out.mono ?_); rintro e w1 ⟨v, rfl, rs, h1, h2, h3⟩; rw [HE.out] at h1; obtain ⟨g, c1, rfl, hg1, hg2⟩ := h2.form (by omega); rw [h1] at h2 ⊢; obtain ⟨⟨x0, hx0⟩, hf0⟩ := h2.at_ h1 hkn; have HM := Lib.hid (h2.set (A2, c2) h1 hkn hg1); have H1 := Lib.hid h1; have H3 := Lib.hid h3; clear h1 h2 h3)
    go_ret
    rw [HL.out]
    have h5 : CopyP w (L.set k S) (.slice (some ⟨g, 0, none⟩) n c1) (w1.setCell ⟨g, k, none⟩ (.slice A2 512 c2)) := ⟨rs.set k (A2, c2), by rw [List.length_set, List.length_set, H1.out, HE.out], HM.out, goods_set H3.out HG.out⟩
    obtain ⟨A', c', e2, hp⟩ := h5.pl
    exact ⟨A', c', congrArg Ending.returned e2, hp, HM.out.2⟩
end Go.Proofs.Ythcilmlaoddckaa.Pg
/- The document's slots' numbers, and whether numbers are the same. -/
namespace Go.Proofs.Ythcilmlaoddckaa.Pg
open Go.RowKit Go.Proofs.Ythcilmlaoddckaa.Mem Go.Proofs.Ythcilmlaoddckaa.Right
set_option linter.unusedVariables false

/-- Numbers of the call's own. -/
def OwnI (w : World) (v : Value) (l : List Nat) (w' : World) : Prop := w'.ownsRow w.heap.size 3 1 v l.length (ints l) ∧ Below w.heap.size w w'
theorem elem_int : Elem Try.prog 93 3 8 := Elem.of Try.underlying93 infoInt rfl
theorem wp_int {w0 w : World} {ops : Array Oper} {rest : List Oper} {o : Oper} {a : Act} {Q : Exit → Act → World → Prop} (s y : Operand)
    (hgd : o.guard = none) (ho : o.op = .call { callee := .builtin .append, args := #[s, y], argTypes := #[93, 93] })
    {v : Value} {l : List Nat} {x : Nat} (hs : a.eval s = v) (hown : OwnI w0 v l w) (hy : a.eval y = .slice (some ⟨w.heap.size, 0, none⟩) 1 1) (hn : l.length ≤ 2000)
    (h : ∀ v' w', OwnI w0 v' (l ++ [x]) w' → wpList Try.prog ops Q rest (a.put o.dst v') w') :
    wpList Try.prog ops Q (o :: rest) a (w.alloc (.cells #[.int .i64 (x : Int)] 3)) := by
  refine wp_one elem_int w0.heap.size s y hgd ho hs hown.1 hy rfl (by omega) (by omega) hown.2.size fun v' w' g1 g2 _ => h v' w' ⟨?_, (al hown.2 _).grown g2 (al hown.2 _).size (fun k hk => (hown.1.lt k hk).1)⟩
  have e1 : (l ++ [x]).length = l.length + 1 := by simp
  have e2 : ints (l ++ [x]) = ints l ++ [.int .i64 (x : Int)] := by simp [ints]
  rw [e1, e2]
  exact g1
theorem slotsN_yes {S : List Sl} {k : Nat} (h : full S k = true) : slotsN S (k + 1) = slotsN S k ++ [k] := by
  show slotsN S k ++ _ = _
  rw [if_pos h]
theorem slotsN_no {S : List Sl} {k : Nat} (h : full S k = false) : slotsN S (k + 1) = slotsN S k := by
  show slotsN S k ++ _ = _
  rw [if_neg (by rw [h]; decide), List.append_nil]
set_option maxHeartbeats 1000000 in
theorem slots_ref (A : Option Addr) (n c : Nat) (S : List Sl) (w : World) (h : RL w A n c S) (hn : n ≤ 1000) :
    Calls Try.prog 61 #[.slice A n c] w fun e w' => ∃ v, e = .returned v ∧ OwnI w v (slotsN S S.length) w' := by
  have H := Lib.hid h
  have HL := Lib.hid h.len
  clear h
  go_enter Try.func61, Try.ntmps61
  go_wp2
  go_loopw [3, 4] (fun o i wr => ∃ (k : Nat) (v : Value), k ≤ n ∧ o = v ∧ i = .int .i64 k ∧ Hid (OwnI w v (slotsN S k) wr)) (fun _ i _ => n - (intOf i).toNat)
  case atStart => exact ⟨0, _, Nat.zero_le _, rfl, rfl, Lib.hid ⟨World.ownsRow_nil _ _ _ _, Below.refl _ _⟩⟩
  case round =>
    obtain ⟨k, v, hk, rfl, rfl, HO⟩ := hrel
    by_cases hlt : k < n
    · obtain ⟨b, o, A', c', rfl, hb, c0, c1, _⟩ := (H.out.below HO.out.2).get hlt
      have hlt' : (k : Int) < (n : Int) := by omega
      have HN := Lib.hid (show (slotsN S k).length ≤ 2000 by have := slotsN_len S k; omega)
      clear c1
      cases hs : (sl S k).isSome with
      | true =>
        have HF := Lib.hid (show full S k = true by rw [full_sl]; exact hs)
        rw [hs] at c0
        clear hs
        go_wp2_with (at_builtin; refine wp_int _ _ rfl rfl rfl HO.out rfl HN.out ?_; intro v' w1 m1; have HM := Lib.hid m1; clear m1)
        go_roundw
        case rel => exact ⟨k + 1, _, by omega, rfl, by go_num, Lib.hid (by rw [slotsN_yes HF.out]; exact HM.out)⟩
        case measure => simp [intOf]; omega
      | false =>
        have HF := Lib.hid (show full S k = false by rw [full_sl]; exact hs)
        rw [hs] at c0
        clear hs
        go_wp2
        go_roundw
        case rel => exact ⟨k + 1, _, by omega, rfl, by go_num, Lib.hid (by rw [slotsN_no HF.out]; exact HO.out)⟩
        case measure => simp [intOf]; omega
    · obtain rfl : k = n := by omega
      go_wp2
      go_ret
      exact ⟨_, rfl, by rw [HL.out]; exact HO.out⟩
theorem ints_at {w : World} {B : Nat} {A : Option Addr} {l : List Nat} {k : Nat} (h : Row w B A (ints l)) (hk : k < l.length) :
    ∃ b o, A = some ⟨b, o, none⟩ ∧ b < B ∧ w.cell? ⟨b, o + k, none⟩ = some (.int .i64 (l[k] : Nat)) := by
  have hs : (ints l)[k]? = some (.int .i64 (l[k] : Nat)) := by simp [ints, hk]
  obtain ⟨b, o, e, hb, hc⟩ := h k _ hs
  exact ⟨b, o, e, hb, hc⟩
end Go.Proofs.Ythcilmlaoddckaa.Pg
/- Lists of pages: up to the last page with slots; the page of a number; data laid into the first page that takes it; copies of the pages. -/
namespace Go.Proofs.Ythcilmlaoddckaa.Pg
open Go.RowKit Go.Proofs.Ythcilmlaoddckaa.Mem Go.Proofs.Ythcilmlaoddckaa.Right
set_option linter.unusedVariables false

theorem slots_got (A : Option Addr) (c : Nat) (S : List Sl) (w : World) (h : Good w A c S) :
    Calls Try.prog 44 #[.slice A 512 c] w fun e w' => ∃ A' c', e = .returned (.slice A' (slotsN S S.length).length c') ∧ w'.ownsRow w.heap.size 3 1 (.slice A' (slotsN S S.length).length c') (slotsN S S.length).length (ints (slotsN S S.length)) ∧ Below w.heap.size w w' :=
  (slots_any A c S w h).mono fun e w' ⟨v, he, ho, hb⟩ => by
    obtain ⟨A', c', rfl, _, _⟩ := Row.form ho
    exact ⟨A', c', he, ho, hb⟩
theorem full_last {S : List Sl} {k : Nat} (h : Ok S) (hk : S.length = k + 1) : full S k = true := by
  obtain ⟨s, hs⟩ : ∃ s, S[k]? = some s := ⟨_, List.getElem?_eq_getElem (by omega)⟩
  have h1 := lst_next hs
  rw [List.take_of_length_le (by omega), h.last, hk] at h1
  rw [full_of hs]
  cases h2 : s.isSome with
  | true => rfl
  | false =>
    rw [h2] at h1
    have h3 := lst_le (S.take k)
    rw [List.length_take] at h3
    simp at h1
    omega
theorem slots_none {S : List Sl} (h : Ok S) : (slotsN S S.length).length = 0 ↔ S = [] := by
  refine ⟨fun h0 => ?_, fun e => by subst e; rfl⟩
  cases hn : S.length with
  | zero => exact List.eq_nil_of_length_eq_zero hn
  | succ k =>
    rw [hn, slotsN_yes (full_last h hn), List.length_append] at h0
    simp at h0
set_option maxHeartbeats 1000000 in
theorem trimmed_any (b o n c : Nat) (L : List (List Sl)) (w : World) (h : PL w (some ⟨b, o, none⟩) n c L) (hO : ∀ S ∈ L, Ok S) (hn : n ≤ 2000) :
    Calls Try.prog 56 #[.slice (some ⟨b, o, none⟩) n c] w fun e w' => ∃ A', e = .returned (.slice A' (trimH L).length c) ∧ PL w' A' (trimH L).length c (trimH L) ∧ Below w.heap.size w w' := by
  have H := Lib.hid h
  have HL := Lib.hid h.len
  have HO := Lib.hid hO
  have hnc : n ≤ c := h.cap.1
  have hcm : c ≤ 9223372036854775807 := h.cap.2.1
  clear h hO
  go_enter Try.func56, Try.ntmps56
  go_wp2
  go_loopw [3] (fun i wr => ∃ k : Nat, k ≤ n ∧ i = .int .i64 k ∧ Hid (top (L.take k) = top L) ∧ Hid (Below w.heap.size w wr)) (fun i _ => (intOf i).toNat)
  case atStart => exact ⟨n, Nat.le_refl _, rfl, Lib.hid (by rw [List.take_of_length_le (by rw [HL.out]; exact Nat.le_refl _)]), Lib.hid (Below.refl _ _)⟩
  case round =>
    obtain ⟨k, hk, rfl, HT, HB⟩ := hrel
    rcases Nat.eq_zero_or_pos k with h0 | hpos
    · subst h0
      have HS := Lib.hid (show top L = 0 by rw [← HT.out]; rfl)
      go_wp2
      go_ret
      refine ⟨some ⟨b, o, none⟩, by rw [trim_len, HS.out]; rfl, ?_, HB.out⟩
      have := (H.out.below HB.out).take 0 (Nat.zero_le _)
      unfold trimH
      rw [HS.out]
      exact this
    · obtain ⟨j, rfl⟩ : ∃ j, k = j + 1 := ⟨k - 1, by omega⟩
      obtain ⟨b', o', A', c', e, hb, c0, hg⟩ := (H.out.below HB.out).get (k := j) (by omega)
      injection e with e; injection e with e1 e2
      subst e1 e2
      have hj : (j : Int) < (n : Int) := by omega
      have HS := Lib.hid (slots_got A' c' (pageOf L j) wr hg)
      have hne := slots_none hg.2
      obtain ⟨m, hm⟩ : ∃ m, (slotsN (pageOf L j) (pageOf L j).length).length = m := ⟨_, rfl⟩
      rw [hm] at hne HS
      clear hg
      by_cases h0 : m = 0
      · subst h0
        have HT2 := Lib.hid (show top (L.take j) = top L by rw [← HT.out, top_next (by rw [HL.out]; omega), if_pos (hne.1 rfl)])
        clear hne hm
        go_wp2_with (go_at_call 44; (with_reducible refine HS.out.mono ?_); rintro e w1 ⟨A1, c1, rfl, _, hb1⟩; have HB1 := Lib.hid (on HB.out hb1); clear hb1)
        go_roundw
        case rel => exact ⟨j, by omega, by go_num, HT2, HB1⟩
        case measure => simp [intOf]
      · have HT2 := Lib.hid (show top L = j + 1 by rw [← HT.out, top_next (by rw [HL.out]; omega), if_neg (fun e => h0 (hne.2 e))])
        have h0' : ¬ (m : Int) = 0 := by omega
        clear hne hm
        go_wp2_with (go_at_call 44; (with_reducible refine HS.out.mono ?_); rintro e w1 ⟨A1, c1, rfl, _, hb1⟩; have HB1 := Lib.hid (on HB.out hb1); clear hb1)
        go_ret
        refine ⟨some ⟨b, o, none⟩, by rw [trim_len, HT2.out]; rfl, ?_, HB1.out⟩
        have := (H.out.below HB1.out).take (j + 1) hk
        unfold trimH
        rw [HT2.out, List.length_take, HL.out, Nat.min_eq_left hk]
        exact this
/-- The page of a number, or a new one. -/
theorem pageAt_any (A : Option Addr) (n c k : Nat) (L : List (List Sl)) (w0 w : World) (h : PL w0 A n c L) (hw : Below w0.heap.size w0 w) :
    Calls Try.prog 68 #[.slice A n c, .int .i64 (k : Int)] w fun e w' => ∃ A' c', e = .returned (.slice A' 512 c') ∧ Good w' A' c' (pageOf L k) ∧ Below w.heap.size w w' := by
  by_cases hlt : k < n
  · obtain ⟨b, o, A', c', rfl, hb, c0, hg⟩ := (h.below hw).get hlt
    have HG := Lib.hid hg
    have hlt' : (k : Int) < (n : Int) := by omega
    clear hg h
    go_enter Try.func68, Try.ntmps68
    go_wp2
    go_ret
    exact ⟨A', c', rfl, HG.out, Below.refl _ _⟩
  · have HE := Lib.hid (show pageOf L k = [] from pageOf_ge (by have := h.len; omega))
    have hlt' : ¬ (k : Int) < (n : Int) := by omega
    clear h
    go_enter Try.func68, Try.ntmps68
    go_wp2_with (go_at_call 76; (with_reducible refine (new_got w).mono ?_); rintro e w1 ⟨g1, c1, rfl, hf1⟩; have HF1 := Lib.hid hf1.1; have HB1 := Lib.hid hf1.2.2; clear hf1)
    go_ret
    exact ⟨_, c1, rfl, by rw [HE.out]; exact HF1.out, HB1.out⟩
/-- A result that lies in a cell, among others. -/
theorem res_tct {fn : Func} {p u v : Tmp} {ty : TypeId} (h : fn.results = #[.tmp u, .cell p ty, .tmp v]) {tmps : Array Value} {P : Program} {W : World} {B : Nat} {r : Value} (hp : tmps.getD p undef = .pointer (some ⟨B, 0, none⟩)) (hl : (loadVar ty ⟨B, 0, none⟩).run P W = .ok r W) :
    (results fn tmps).run P W = .ok (.tuple #[tmps.getD u undef, r, tmps.getD v undef]) W := by
  simp only [results, h]
  simp only [Array.getD_eq_getD_getElem?] at hp ⊢
  simp [hp, asAddr, Result.andThen, hl]
theorem res_ct {fn : Func} {p u : Tmp} {ty : TypeId} (h : fn.results = #[.cell p ty, .tmp u]) {tmps : Array Value} {P : Program} {W : World} {B : Nat} {r : Value} (hp : tmps.getD p undef = .pointer (some ⟨B, 0, none⟩)) (hl : (loadVar ty ⟨B, 0, none⟩).run P W = .ok r W) :
    (results fn tmps).run P W = .ok (.tuple #[r, tmps.getD u undef]) W := by
  simp only [results, h]
  simp only [Array.getD_eq_getD_getElem?] at hp ⊢
  simp [hp, asAddr, Result.andThen, hl]
theorem two_load {W : World} {B : Nat} {x y : Value} (h0 : W.cell? ⟨B, 0, none⟩ = some x) (h1 : W.cell? ⟨B, 1, none⟩ = some y) : (loadVar 31 ⟨B, 0, none⟩).run Try.prog W = .ok (.agg #[x, y]) W := by
  go_simp
theorem rid_load {W : World} {B : Nat} {x y : Value} (h : Cel W B 31 #[x, y]) : (loadVar 31 ⟨B, 0, none⟩).run Try.prog W = .ok (.agg #[x, y]) W := two_load (h.at_ 0) (h.at_ 1)
/-- The answer of a call that lays data: pages, a place, an error. -/
def PutL (w : World) (x : Option (List (List Sl))) (p s err : Int) (e : Ending) (w' : World) : Prop :=
  match x with
  | none => e = .returned (.tuple #[.slice none 0 0, .agg #[.int .i64 p, .int .i64 s], .int .i64 err]) ∧ Below w.heap.size w w'
  | some L => ∃ A c, e = .returned (.tuple #[.slice A L.length c, .agg #[.int .i64 p, .int .i64 s], .int .i64 0]) ∧ PL w' A L.length c L ∧ Below w.heap.size w w'
set_option maxHeartbeats 1000000 in
theorem putp_any (A A2 : Option Addr) (n c m c2 : Nat) (L : List (List Sl)) (d : List UInt8) (w : World) (h : PL w A n c L) (hO : HOk L) (hd : Bs w A2 m c2 d) (hm : d.length ≤ 255) (x : Option (List (List Sl))) (p s y : Int) (hx : putH L d = (x, p, s, y)) :
    Calls Try.prog 49 #[.slice A n c, .slice A2 m c2] w (PutL w x p s y) := by
  have H := Lib.hid h
  have HL := Lib.hid h.len
  have HO := Lib.hid hO
  have HD := Lib.hid hd
  have HX := Lib.hid hx
  have HM := Lib.hid hm
  have hn64 : n ≤ 64 := by have := h.len; have := hO.few; omega
  have HB0 := Lib.hid (al (Below.refl w.heap.size w) (.cells #[.int .i64 0, .int .i64 0] 31))
  have HZ0 := Lib.hid (Cel.new w 31 #[.int .i64 0, .int .i64 0] rfl)
  clear h hO hd hx hm
  go_enter Try.func49, Try.ntmps49
  go_wp2
  go_loopw [11] (fun i wr => ∃ k : Nat, k ≤ 64 ∧ i = .int .i64 k ∧ Hid (∀ j, j < k → (putV (pageOf L j) d).1 = none) ∧ Hid (Below w.heap.size w wr) ∧ Hid (Cel wr w.heap.size 31 #[.int .i64 0, .int .i64 0])) (fun i _ => 64 - (intOf i).toNat)
  case atStart => exact ⟨0, by decide, rfl, Lib.hid (fun j hj => by omega), HB0, HZ0⟩
  case round =>
    clear HB0 HZ0
    obtain ⟨k, hk, rfl, HN, HB, HZ⟩ := hrel
    by_cases hlt : k < 64
    · have hlt' : (k : Int) < 64 := by omega
      obtain ⟨px, ps, py, hpx⟩ : ∃ px ps py, putV (pageOf L k) d = (px, ps, py) := ⟨_, _, _, rfl⟩
      have HPX := Lib.hid hpx
      cases px with
      | none =>
        have hy : py ≠ 0 := by rcases (putV_no hpx).2 with e | e <;> (rw [e]; decide)
        have HN2 := Lib.hid (show ∀ j, j < k + 1 → (putV (pageOf L j) d).1 = none from fun j hj => by
          by_cases e : j = k
          · subst e; rw [HPX.out]
          · exact HN.out j (by omega))
        clear hpx
        go_wp2_with first | (go_at_call 68; (with_reducible refine (pageAt_any A n c k L w _ H.out HB.out).mono ?_); rintro e w1 ⟨A1, c1, rfl, hg1, hb1⟩; have HG1 := Lib.hid hg1; have HB1 := Lib.hid (on HB.out hb1); have HZ1 := Lib.hid (HZ.out.below hb1); clear hg1 hb1) | (go_at_call 67; (with_reducible refine (put_got A1 A2 c1 m c2 (pageOf L k) d _ HG1.out (HD.out.below HB1.out) none ps py HPX.out).mono ?_); rintro e w2 ⟨rfl, hb2⟩; have HB2 := Lib.hid (on HB1.out hb2); have HZ2 := Lib.hid (HZ1.out.below hb2); clear hb2)
        go_roundw
        case rel => exact ⟨k + 1, by omega, by go_num, HN2, HB2, HZ2⟩
        case measure => simp [intOf]; omega
      | some S =>
        have hpv := putV_ok (HO.out.page k) hpx
        obtain rfl := hpv.2.2.2.1
        have hkl : k ≤ n := by
          refine Nat.le_of_not_lt fun hh => ?_
          have := HN.out n hh
          rw [pageOf_ge (by rw [HL.out]; exact Nat.le_refl _), putV_new HM.out] at this
          cases this
        have HR := Lib.hid (putH_at hlt HN.out hpx)
        clear hpx hpv
        go_wp2_with first | (go_at_call 68; (with_reducible refine (pageAt_any A n c k L w _ H.out HB.out).mono ?_); rintro e w1 ⟨A1, c1, rfl, hg1, hb1⟩; have HG1 := Lib.hid hg1; have HB1 := Lib.hid (on HB.out hb1); have HZ1 := Lib.hid (HZ.out.below hb1); clear hg1 hb1) | (go_at_call 67; (with_reducible refine (put_got A1 A2 c1 m c2 (pageOf L k) d _ HG1.out (HD.out.below HB1.out) (some S) ps 0 HPX.out).mono ?_); rintro e w2 ⟨g2, c3, rfl, hf2⟩; have HF2 := Lib.hid hf2.1; have HB2 := Lib.hid (on HB1.out hf2.2.2); have HZ2 := Lib.hid (HZ1.out.below hf2.2.2); clear hf2) | (go_at_call 33; (with_reducible refine (with_any A (some ⟨g2, 0, none⟩) n c c3 k L S _ (H.out.below HB2.out) (by omega) hkl HF2.out).mono ?_); rintro e w3 ⟨A4, c4, rfl, hp4, hb4⟩; have HP4 := Lib.hid hp4; have HB4 := Lib.hid (on HB2.out hb4); have HZ4 := Lib.hid (HZ2.out.below hb4); have z0 := HZ4.out.at_ 0; have z1 := HZ4.out.at_ 1; have f0 := HZ4.out.open_ 0; have f1 := HZ4.out.open_ 1; clear hp4 hb4)
        have q := (HZ4.out.set 0 (.int .i64 (k : Int))).set 1 (.int .i64 ps)
        have hX := HX.out
        rw [HR.out] at hX
        injection hX with e1 hX
        injection hX with e2 hX
        injection hX with e3 e4
        subst e1 e2 e3 e4
        refine bodyPost_ret (res_tct rfl rfl (rid_load q)) rfl ?_
        have hB5 := (HB4.out.setCell (p := ⟨w.heap.size, 0, none⟩) (Nat.le_refl _) (.int .i64 (k : Int))).setCell (p := ⟨w.heap.size, 1, none⟩) (Nat.le_refl _) (.int .i64 ps)
        exact ⟨A4, c4, rfl, (Frm.two (T := [31]) HZ4.out (by decide) (Nat.le_refl _)).pl (by decide) HP4.out, hB5⟩
    · obtain rfl : k = 64 := by omega
      have HR := Lib.hid (putH_no HN.out)
      have z0 := HZ.out.at_ 0
      have z1 := HZ.out.at_ 1
      have f0 := HZ.out.open_ 0
      have f1 := HZ.out.open_ 1
      go_wp2
      have q := (HZ.out.set 0 (.int .i64 0)).set 1 (.int .i64 0)
      have hX := HX.out
      rw [HR.out] at hX
      cases hX
      refine bodyPost_ret (res_tct rfl rfl (rid_load q)) rfl ?_
      exact ⟨rfl, (HB.out.setCell (p := ⟨w.heap.size, 0, none⟩) (Nat.le_refl _) (.int .i64 0)).setCell (p := ⟨w.heap.size, 1, none⟩) (Nat.le_refl _) (.int .i64 0)⟩
end Go.Proofs.Ythcilmlaoddckaa.Pg
/- Lists of pages: without what is at a place; copies of all pages. -/
namespace Go.Proofs.Ythcilmlaoddckaa.Pg
open Go.RowKit Go.Proofs.Ythcilmlaoddckaa.Mem Go.Proofs.Ythcilmlaoddckaa.Right
set_option linter.unusedVariables false

theorem PL.some_ {w : World} {A : Option Addr} {n c : Nat} {L : List (List Sl)} (h : PL w A n c L) (h0 : 0 < n) : ∃ b o, A = some ⟨b, o, none⟩ := by
  obtain ⟨b, o, _, _, e, _⟩ := h.get h0
  exact ⟨b, o, e⟩
/-- The answer of a call that lets data go: pages, an error. -/
def DropL (w : World) (x : Option (List (List Sl))) (err : Int) (e : Ending) (w' : World) : Prop :=
  match x with
  | none => e = .returned (.tuple #[.slice none 0 0, .int .i64 err]) ∧ Below w.heap.size w w'
  | some L => ∃ A c, e = .returned (.tuple #[.slice A L.length c, .int .i64 0]) ∧ PL w' A L.length c L ∧ Below w.heap.size w w'
set_option maxRecDepth 100000 in
set_option maxHeartbeats 1000000 in
theorem dropp_any (A : Option Addr) (n c k : Nat) (s : Int) (L : List (List Sl)) (w : World) (h : PL w A n c L) (hO : HOk L) (hk : k < n) (x : Option (List (List Sl))) (y : Int) (hx : dropP L k s = (x, y)) :
    Calls Try.prog 35 #[.slice A n c, .agg #[.int .i64 (k : Int), .int .i64 s]] w (DropL w x y) := by
  have hl := h.len
  have hn64 : n ≤ 64 := by have := hO.few; omega
  have H := Lib.hid h
  have HO := Lib.hid hO
  obtain ⟨b, o, A', c', rfl, hb, c0, hg⟩ := h.get hk
  have HB0 := Lib.hid (al (Below.refl w.heap.size w) (.cells #[.int .i64 (k : Int), .int .i64 s] 31)).drew
  have HZ0 := Lib.hid (show Cel (w.alloc (.cells #[.int .i64 (k : Int), .int .i64 s] 31)).drew w.heap.size 31 #[.int .i64 (k : Int), .int .i64 s] from Cel.new w _ _ rfl)
  have HG := Lib.hid (hg.below HB0.out)
  have HK := Lib.hid (show ∀ W, Below (w.alloc (.cells #[.int .i64 (k : Int), .int .i64 s] 31)).drew.heap.size (w.alloc (.cells #[.int .i64 (k : Int), .int .i64 s] 31)).drew W → W.cell? ⟨w.heap.size, 0, none⟩ = some (.int .i64 (k : Int)) ∧ W.cell? ⟨w.heap.size, 1, none⟩ = some (.int .i64 s) ∧ W.cell? ⟨b, o + k, none⟩ = some (.slice A' 512 c') from fun W hW => by
    have hz := HZ0.out.below hW
    exact ⟨hz.at_ 0, hz.at_ 1, ((Mem.on HB0.out hW).cell (p := ⟨b, o + k, none⟩) hb).trans c0⟩)
  have hkn : (k : Int) < (n : Int) := by omega
  have HL := Lib.hid hl
  have hne := World.new_ne w _ c0
  obtain ⟨px, py, hpx⟩ : ∃ px py, dropV (pageOf L k) s = (px, py) := ⟨_, _, rfl⟩
  have HPX := Lib.hid hpx
  cases px with
  | none =>
    have hx' : (none, py) = (x, y) := by rw [← hx]; unfold dropP; rw [hpx]
    injection hx' with e1 e2
    subst e1 e2
    have hy := dropV_no hpx
    subst hy
    clear h hO hl hg hx hpx
    go_enter Try.func35, Try.ntmps35
    go_wp2
    go_region_held3 (fun W => W.cell? ⟨w.heap.size, 0, none⟩ = some (.int .i64 (k : Int)) ∧ W.cell? ⟨w.heap.size, 1, none⟩ = some (.int .i64 s) ∧ W.cell? ⟨b, o + k, none⟩ = some (.slice A' 512 c'))
      (first | go_keep | exact ⟨z0, z1, z2⟩)
      (first | (go_simp; go_at_call 55; (with_reducible refine (drop_got A' c' (pageOf L k) s _ HG.out none 4 HPX.out).mono ?_); rintro e w1 ⟨rfl, hb1⟩; have HB1 := Lib.hid (on HB0.out hb1); obtain ⟨z0, z1, z2⟩ := HK.out _ hb1; clear hb1))
    go_wp2
    go_ret2
    exact ⟨rfl, HB1.out⟩
  | some S =>
    have hx' : (some (trimH (L.set k S)), 0) = (x, y) := by rw [← hx]; unfold dropP; rw [hpx]
    injection hx' with e1 e2
    subst e1 e2
    obtain ⟨hok, rfl, _⟩ := dropV_yes (hO.page k) hpx
    have HSP := Lib.hid (show setP L k S = L.set k S from setP_lt (by omega))
    have HOS := Lib.hid (ok_set hO.each (k := k) hok)
    have HLS := Lib.hid (show (setP L k S).length = n by rw [HSP.out, List.length_set]; exact hl)
    clear h hO hl hg hx hpx
    go_enter Try.func35, Try.ntmps35
    go_wp2
    go_region_held3 (fun W => W.cell? ⟨w.heap.size, 0, none⟩ = some (.int .i64 (k : Int)) ∧ W.cell? ⟨w.heap.size, 1, none⟩ = some (.int .i64 s) ∧ W.cell? ⟨b, o + k, none⟩ = some (.slice A' 512 c'))
      (first | go_keep | exact ⟨z0, z1, z2⟩)
      (first | (go_simp; go_at_call 55; (with_reducible refine (drop_got A' c' (pageOf L k) s _ HG.out (some S) 0 HPX.out).mono ?_); rintro e w1 ⟨g1, c1, rfl, hf1⟩; have HF1 := Lib.hid hf1.1; have HB1 := Lib.hid (on HB0.out hf1.2.2); obtain ⟨z0, z1, z2⟩ := HK.out _ hf1.2.2; clear hf1))
    go_wp2_with first | (go_at_call 33; (with_reducible refine (with_any (some ⟨b, o, none⟩) (some ⟨g1, 0, none⟩) n c c1 k L S _ (H.out.below HB1.out) (by omega) (by omega) HF1.out).mono ?_); rintro e w2 ⟨A2, c2, rfl, hp2, hb2⟩; rw [HLS.out] at hp2 ⊢; obtain ⟨b2, o2, rfl⟩ := hp2.some_ (by omega); rw [HSP.out] at hp2; have HP2 := Lib.hid hp2; have HB2 := Lib.hid (on HB1.out hb2); clear hp2 hb2) | (go_at_call 56; (with_reducible refine (trimmed_any b2 o2 n c2 (L.set k S) _ HP2.out HOS.out (by omega)).mono ?_); rintro e w3 ⟨A3, rfl, hp3, hb3⟩; have HP3 := Lib.hid hp3; have HB3 := Lib.hid (on HB2.out hb3); clear hp3 hb3)
    go_ret2
    exact ⟨A3, c2, rfl, HP3.out, HB3.out⟩
theorem good_some {w : World} {A : Option Addr} {c : Nat} {S : List Sl} (h : Good w A c S) : ∃ b o, A = some ⟨b, o, none⟩ := by
  obtain ⟨b, o, _, e, _⟩ := h.1.1.byte (k := 0) (by rw [h.2.fit.len]; decide)
  exact ⟨b, o, e⟩
/-- A page that lies in a block of bytes of its own. -/
def GoodT (w : World) (A : Option Addr) (c : Nat) (S : List Sl) : Prop := Good w A c S ∧ ∃ g, A = some ⟨g, 0, none⟩ ∧ ∃ cs fr, w.heap[g]? = some (.cells cs 5 fr)
def GoodsT (w : World) (rs : List Pp) (L : List (List Sl)) : Prop := ∀ (k : Nat) (r : Pp) (S : List Sl), rs[k]? = some r → L[k]? = some S → GoodT w r.1 r.2 S
theorem GoodT.below {w w' : World} {A : Option Addr} {c : Nat} {S : List Sl} (h : GoodT w A c S) (hb : Below w.heap.size w w') : GoodT w' A c S := by
  obtain ⟨h1, g, e, cs, fr, h2⟩ := h
  exact ⟨h1.below hb, g, e, cs, fr, (hb.block g (blk_lt h2)).trans h2⟩
theorem GoodsT.below {w w' : World} {rs : List Pp} {L : List (List Sl)} (h : GoodsT w rs L) (hb : Below w.heap.size w w') : GoodsT w' rs L := fun k r S h1 h2 => (h k r S h1 h2).below hb
theorem GoodsT.goods {w : World} {rs : List Pp} {L : List (List Sl)} (h : GoodsT w rs L) : Goods w rs L := fun k r S h1 h2 => (h k r S h1 h2).1
theorem GoodsT.next {w : World} {rs : List Pp} {L : List (List Sl)} {A : Option Addr} {c k : Nat} {S : List Sl} (h : GoodsT w rs L) (hk : rs.length = k) (hS : L[k]? = some S) (hg : GoodT w A c S) : GoodsT w (rs ++ [(A, c)]) L := fun j r T h1 h2 => by
  rcases Nat.lt_or_ge j rs.length with hj | hj
  · rw [List.getElem?_append_left hj] at h1
    exact h j r T h1 h2
  · rw [List.getElem?_append_right hj] at h1
    cases hjj : j - rs.length with
    | zero =>
      rw [hjj] at h1
      simp at h1
      obtain rfl : j = k := by omega
      rw [hS] at h2
      injection h2 with h2
      subst h1 h2
      exact hg
    | succ i => rw [hjj] at h1; simp at h1
/-- A list of the call's own has grown: pages lie as they lay. -/
theorem GoodsT.grown {w0 w w' : World} {v : Value} {rs rs' : List Pp} {L : List (List Sl)} {o : Obj} (h : GoodsT w rs L) (hm : MadeP w0 v rs' w) (hg : (w.alloc o).grownBy w' v.ownBlock) : GoodsT w' rs L := fun k r S h1 h2 => by
  obtain ⟨hr, g, e, cs, fr, hc⟩ := h k r S h1 h2
  have hk : w'.heap[g]? = w.heap[g]? := (hg.block g (by have := blk_lt hc; simp; omega) (not_row hc (by decide) hm.1)).trans (Below.heap_alloc w o g (blk_lt hc))
  obtain ⟨⟨hb1, hb2⟩, hok⟩ := hr
  rw [e] at hb1
  have hsz : w.heap.size ≤ w'.heap.size := by
    have := hg.size
    simp at this
    omega
  exact ⟨⟨⟨by rw [e]; exact row_blk hb1 hk hsz, hb2⟩, hok⟩, g, e, cs, fr, hk.trans hc⟩
theorem clone_page (A : Option Addr) (c : Nat) (S : List Sl) (w : World) (h : Good w A c S) :
    Calls Try.prog 48 #[.slice A 512 c] w fun e w' => ∃ g c', e = .returned (.slice (some ⟨g, 0, none⟩) 512 c') ∧ GoodT w' (some ⟨g, 0, none⟩) c' S ∧ Below w.heap.size w w' := by
  obtain ⟨b, o, rfl⟩ := good_some h
  refine (clone_any b o 512 c (pg S) w h.1 (by decide)).mono ?_
  rintro e w' ⟨v, rfl, hm⟩
  obtain ⟨g, cap, ex, rfl, hblk, hB, _⟩ := made_blk hm h.2.fit.len (by decide)
  obtain ⟨A', c', ea, hb⟩ := made_bs hm h.2.fit.len
  injection ea with ea1 ea2 ea3
  subst ea1 ea3
  exact ⟨g, cap, rfl, ⟨⟨hb, h.2⟩, g, rfl, _, _, hblk.heap⟩, hm.2.1⟩
set_option maxHeartbeats 1000000 in
theorem clones_any (A : Option Addr) (n c : Nat) (L : List (List Sl)) (w : World) (h : PL w A n c L) (hn : n ≤ 2000) :
    Calls Try.prog 37 #[.slice A n c] w fun e w' => ∃ A' c', e = .returned (.slice A' n c') ∧ PL w' A' n c' L ∧ Below w.heap.size w w' := by
  have H := Lib.hid h
  have hl := h.len
  have HL := Lib.hid hl
  clear h
  go_enter Try.func37, Try.ntmps37
  go_wp2
  go_loopw [3, 8] (fun v i wr => ∃ (k : Nat) (rs : List Pp), k ≤ n ∧ rs.length = k ∧ i = .int .i64 k ∧ Hid (MadeP w v rs wr) ∧ Hid (GoodsT wr rs L)) (fun _ i _ => n - (intOf i).toNat)
  case atStart => exact ⟨0, [], Nat.zero_le _, rfl, rfl, Lib.hid (MadeP.start (Below.refl _ _)), Lib.hid (fun k r S h => by simp at h)⟩
  case round =>
    obtain ⟨k, rs, hk, hrs, rfl, HM, HG⟩ := hrel
    by_cases hlt : k < n
    · obtain ⟨b, o, A', c', rfl, hb, c0, hg⟩ := (H.out.below HM.out.2).get hlt
      have HP := Lib.hid hg
      have hlt' : (k : Int) < (n : Int) := by omega
      have HN1 : Hid (rs.length ≤ 2000) := Lib.hid (by omega)
      have HK := Lib.hid (show L[k]? = some (pageOf L k) from pageOf_lt (by omega))
      clear hg
      go_wp2_with first | (go_at_call 48; (with_reducible refine (clone_page A' c' (pageOf L k) _ HP.out).mono ?_); rintro e w1 ⟨g1, c1, rfl, hg1, hb1⟩; have HM1 := Lib.hid (HM.out.below hb1); have HG1 := Lib.hid ((HG.out.below hb1).next hrs HK.out hg1); clear hg1 hb1) | (at_builtin; go_loud (refine wp_page (.tmp 12) (.tmp 15) rfl rfl rfl HM1.out rfl HN1.out ?_; intro v' w2 m2 g2; have HM2 := Lib.hid m2; have HG2 := Lib.hid (HG1.out.grown HM1.out g2); clear m2 g2))
      go_roundw
      case rel => exact ⟨k + 1, rs ++ [(some ⟨g1, 0, none⟩, c1)], by omega, by simp; omega, by go_num, HM2, HG2⟩
      case measure => simp [intOf]; omega
    · obtain rfl : k = n := by omega
      obtain ⟨A', c', e, hp⟩ := HM.out.pl (by omega) HG.out.goods
      rw [hl] at e hp
      have HP := Lib.hid hp
      subst e
      clear hp
      go_wp2
      go_ret
      exact ⟨A', c', rfl, HP.out, HM.out.2⟩
end Go.Proofs.Ythcilmlaoddckaa.Pg
