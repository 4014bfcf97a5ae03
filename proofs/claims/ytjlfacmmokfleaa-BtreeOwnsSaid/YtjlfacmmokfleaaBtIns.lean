/- slices.Insert of one pair, and of one node. -/
import Derived.Test.YtjlfacmmokfleaaBtHalves
import Derived.Laws.Externs
namespace Go.Proofs.Ytjlfacmmokfleaa.Bt
open Go.RowKit Go.Proofs.Ytjlfacmmokfleaa.Mem Go.Proofs.Ytjlfacmmokfleaa.Right
set_option linter.unusedVariables false

theorem cel_shape {w : World} {B : Nat} {t : TypeId} {cs : Array Value} (h : Cel w B t cs) : w.shape? B = some (t, cs.size) := by
  have h' : w.heap[B]? = some (.cells cs t (0, 0)) := h
  simp [World.shape?, h']
section
variable {P : Program} {t e : TypeId} {k bytes : Nat}
/-- copy into a row that is known whole. -/
theorem run_copy_own (E : ElemN P t e k bytes) {w : World} {g : Nat} {L : List Value} (hg : Cel w g e L.toArray) (ty : TypeId) (o dLen dCap : Nat) (a : Addr) (sLen sCap m : Nat) (cs : List Value) (hm : Nat.min sLen dLen = m) (hn : cs.length = m * k)
    (hsrc : ∀ j v, cs[j]? = some v → w.cell? (a.add j) = some v) (hfit : o + cs.length ≤ L.length) (h1 : ∀ v ∈ cs, v.oneCell' = true) :
    ∃ w', (Builtin.copy_ #[t, t] ty #[.slice (some ⟨g, o, none⟩) dLen dCap, .slice (some a) sLen sCap]).run P w = .ok (goInt m) w' ∧ Cel w' g e (splice L o cs).toArray ∧ w.grownBy w' (some g) := by
  have hu := elem_run E
  have hl := run_loadCells_list (P := P) w a cs hsrc
  have hst := run_storeCells_at P g o e cs 0 L.toArray w hg (by simpa using hfit) h1
  refine ⟨_, ?_, setRow_heap w g L.toArray _ e _ hg, ⟨rfl, rfl, rfl, by simp [World.setRow], fun j _ hj => setRow_other w g j _ (fun e => hj (by rw [e]))⟩⟩
  have e1 : (L.toArray.toList.take (o + 0) ++ cs ++ L.toArray.toList.drop (o + 0 + cs.length)) = splice L o cs := by simp [splice]
  rw [e1] at hst
  simp [Builtin.copy_, run_underlying hu, Builtin.lenOf, Builtin.firstCells, size_run E, hm, ← hn, hl, hst]
theorem step_copy_row {ops : Array Oper} {o : Oper} {ac : Act} {w : World} {K : Act → World → Prop} {Q : Exit → Act → World → Prop} {F : Prop} (E : ElemN P t e k bytes) (hgd : o.guard = none) (d s : Operand)
    (ho : o.op = .call { callee := .builtin .copy, args := #[d, s], argTypes := #[t, t] }) {g : Nat} {L : List Value} (hg : Cel w g e L.toArray) (f f' dLen dCap : Nat) (a : Addr) (sLen sCap m : Nat) (cs : List Value)
    (hd : ac.eval d = .slice (some ⟨g, f', none⟩) dLen dCap) (hs : ac.eval s = .slice (some a) sLen sCap) (hf : f' = f) (hm : Nat.min sLen dLen = m) (hn : cs.length = m * k)
    (hsrc : ∀ j v, cs[j]? = some v → w.cell? (a.add j) = some v) (hfit : f + cs.length ≤ L.length) (h1 : ∀ v ∈ cs, v.oneCell' = true)
    (h : ∀ w', Hid (Cel w' g e (splice L f cs).toArray) → w.grownBy w' (some g) → K (ac.put o.dst (goInt m)) w') :
    if Region.wanted o (yielded ops ac.tmps) = true then Oper.wp P o ac w K Q else F := by
  subst hf
  obtain ⟨w', hr, h2, h3⟩ := run_copy_own E hg o.type f' dLen dCap a sLen sCap m cs hm hn hsrc hfit h1
  have hw : Region.wanted o (yielded ops ac.tmps) = true := by simp [Region.wanted, hgd]
  rw [if_pos hw]
  unfold Oper.wp
  simp [execOp, ho, resolve, invoke, builtin, hd, hs, hr, Result.andThen]
  exact h w' h2 h3
theorem wpList_copy_row {ops : Array Oper} {rest : List Oper} {o : Oper} {ac : Act} {w : World} {Q : Exit → Act → World → Prop} (E : ElemN P t e k bytes) (hgd : o.guard = none) (d s : Operand)
    (ho : o.op = .call { callee := .builtin .copy, args := #[d, s], argTypes := #[t, t] }) {g : Nat} {L : List Value} (hg : Cel w g e L.toArray) (f f' dLen dCap : Nat) (a : Addr) (sLen sCap m : Nat) (cs : List Value)
    (hd : ac.eval d = .slice (some ⟨g, f', none⟩) dLen dCap) (hs : ac.eval s = .slice (some a) sLen sCap) (hf : f' = f) (hm : Nat.min sLen dLen = m) (hn : cs.length = m * k)
    (hsrc : ∀ j v, cs[j]? = some v → w.cell? (a.add j) = some v) (hfit : f + cs.length ≤ L.length) (h1 : ∀ v ∈ cs, v.oneCell' = true)
    (h : ∀ w', Hid (Cel w' g e (splice L f cs).toArray) → w.grownBy w' (some g) → wpList P ops Q rest (ac.put o.dst (goInt m)) w') :
    wpList P ops Q (o :: rest) ac w := by
  subst hf
  obtain ⟨w', hr, h2, h3⟩ := run_copy_own E hg o.type f' dLen dCap a sLen sCap m cs hm hn hsrc hfit h1
  refine wpList_plain hgd fun K hK => ?_
  unfold Oper.wp
  simp [execOp, ho, resolve, invoke, builtin, hd, hs, hr, Result.andThen]
  exact hK _ _ (h w' h2 h3)
end
/-- A row known whole is owned, as far as it goes. -/
theorem cel_own {w : World} {g n c k : Nat} {e : TypeId} {L : List Value} (h : Cel w g e L.toArray) (hn : n ≤ c) (hc : c ≤ maxLen) (hl : L.length = c * k) : w.ownsRow 0 e k (.slice (some ⟨g, 0, none⟩) n c) n (L.take (n * k)) :=
  ⟨by rw [List.length_take, hl]; have := Nat.mul_le_mul_right k hn; omega, .inr ⟨g, c, L.toArray, rfl, Nat.zero_le _, h, hn, hc, by simpa using hl, by simp⟩⟩
/-- What one element laid in between leaves. -/
theorem ins_two {L us xs : List Value} {a d m : Nat} (hL : L.take a = us.take a) (hx : xs.length = m) (ha : a ≤ us.length) (hd : us.length - a = d) (hl : a + m + d ≤ L.length) :
    (splice (splice L (a + m) (us.drop a)) a xs).take (a + m + d) = us.take a ++ xs ++ us.drop a := by
  have hD : (us.drop a).length = d := by rw [List.length_drop]; exact hd
  have h1 : (splice L (a + m) (us.drop a)).take a = us.take a := by
    unfold splice
    rw [List.take_append_of_le_length (by rw [List.length_take]; omega), List.take_take, ← hL]
    congr 1; omega
  have h2 : (splice L (a + m) (us.drop a)).drop (a + m) = us.drop a ++ L.drop (a + m + d) := by
    unfold splice
    rw [List.drop_left' (by rw [List.length_take]; omega), hD]
  have h3 : splice (splice L (a + m) (us.drop a)) a xs = us.take a ++ (xs ++ (us.drop a ++ L.drop (a + m + d))) := by
    show (splice L (a + m) (us.drop a)).take a ++ (xs ++ (splice L (a + m) (us.drop a)).drop (a + xs.length)) = _
    rw [h1, hx, h2]
  rw [h3, ← List.append_assoc, ← List.append_assoc]
  exact List.take_left' (by rw [List.length_append, List.length_append, List.length_take, hD, hx]; omega)
theorem ins_other {L us xs : List Value} {a d m : Nat} (hL : L.take a = us.take a) (hx : xs.length = m) (ha : a ≤ us.length) (hd : us.length - a = d) (hl : a + m + d ≤ L.length) :
    (splice (splice L a xs) (a + m) (us.drop a)).take (a + m + d) = us.take a ++ xs ++ us.drop a := by
  have hD : (us.drop a).length = d := by rw [List.length_drop]; exact hd
  have h1 : (splice L a xs).take (a + m) = us.take a ++ xs := by
    unfold splice
    rw [hL, ← List.append_assoc]
    exact List.take_left' (by rw [List.length_append, List.length_take]; omega)
  have h3 : splice (splice L a xs) (a + m) (us.drop a) = us.take a ++ xs ++ (us.drop a ++ (splice L a xs).drop (a + m + d)) := by
    show (splice L a xs).take (a + m) ++ (us.drop a ++ (splice L a xs).drop (a + m + (us.drop a).length)) = _
    rw [h1, hD]
  rw [h3, ← List.append_assoc]
  exact List.take_left' (by rw [List.length_append, List.length_append, List.length_take, hD, hx]; omega)
theorem cel_cells {w : World} {g : Nat} {e : TypeId} {L : List Value} (h : Cel w g e L.toArray) (o : Nat) (cs : List Value) (hc : ∀ j v, cs[j]? = some v → L[o + j]? = some v) : ∀ j v, cs[j]? = some v → w.cell? ((⟨g, o, none⟩ : Addr).add j) = some v := by
  intro j v hj
  have e2 : (⟨g, o, none⟩ : Addr).add j = ⟨g, o + j, none⟩ := by unfold Addr.add; split <;> simp_all
  rw [e2, h.at_, List.getElem?_toArray]
  exact hc j v hj
/-- What an insertion leaves. -/
def Ins (w : World) (e : TypeId) (k n : Nat) (v : Value) (us : List Value) (en : Ending) (w' : World) : Prop :=
  ∃ v', en = .returned v' ∧ w'.ownsRow 0 e k v' n us ∧ w.grownBy w' v.ownBlock ∧ (v'.ownBlock = v.ownBlock ∨ NewRow w.heap.size v')
set_option maxRecDepth 100000 in
set_option maxHeartbeats 4000000 in
/-- At the end. -/
theorem ins_end_p (n gx : Nat) (v : Value) (us xs : List Value) (w : World) (h : w.ownsRow 0 tP 2 v n us) (hx : Cel w gx tP xs.toArray) (hxl : xs.length = 2) (h1 : ∀ u ∈ xs, u.oneCell' = true) (hn : n ≤ 1000) :
    Calls Try.prog 42 #[v, .int .i64 (n : Int), .slice (some ⟨gx, 0, none⟩) 1 1] w (Ins w tP 2 (n + 1) v (us ++ xs)) := by
  have HC := Lib.hid (show ∀ j u, xs[j]? = some u → w.cell? ((⟨gx, 0, none⟩ : Addr).add j) = some u from cel_cells hx 0 xs (fun j v hj => by rwa [Nat.zero_add]))
  have HO := Lib.hid h
  have H1 := Lib.hid h1
  have HL := Lib.hid (show xs.length = 1 * 2 by rw [hxl])
  have t0 : ((n : Int) == (n : Int)) = true := by simp
  obtain ⟨i, z, ht, hi, hz, hz1, hz2, hzc, hk⟩ := elemP
  have HT := Lib.hid ht
  have HI := Lib.hid hi
  have HZ := Lib.hid hz
  rcases h.2 with ⟨rfl, rfl⟩ | ⟨g, c, cur, rfl, _, hh, hnc, hcm, _⟩
  · clear h hx hxl h1 ht hi hz t0
    go_enter Try.func42, Try.ntmps42
    go_wp2_with (at_builtin; refine wpList_append_own_at _ rfl (.tmp 23) (.tmp 24) 37 rfl 0 tP i z 2 32 HT.out HI.out HZ.out hz1 hz2 hzc hk _ 0 us rfl HO.out ⟨gx, 0, none⟩ 1 1 xs rfl HL.out HC.out H1.out (by unfold maxLen; omega) (by omega) (Nat.zero_le _) ?_; intro v w2 ho2 hg2 _ he2; have HO2 := Lib.hid ho2; have HG2 := Lib.hid hg2; have HE2 := Lib.hid he2; clear ho2 hg2 he2)
    go_ret
    exact ⟨v, rfl, HO2.out, HG2.out, HE2.out.imp id (fun e g hg => by rw [e] at hg; injection hg with hg; omega)⟩
  · obtain ⟨o1, ho1, hs1⟩ := slice_l elemP g n c n (Nat.le_refl _) hnc
    clear h hx hxl h1 ht hi hz hh ho1
    go_enter Try.func42, Try.ntmps42
    go_wp2_with (at_builtin; refine wpList_append_own_at _ rfl (.tmp 23) (.tmp 24) 37 rfl 0 tP i z 2 32 HT.out HI.out HZ.out hz1 hz2 hzc hk _ n us rfl HO.out ⟨gx, 0, none⟩ 1 1 xs rfl HL.out HC.out H1.out (by unfold maxLen; omega) (by omega) (Nat.zero_le _) ?_; intro v w2 ho2 hg2 _ he2; have HO2 := Lib.hid ho2; have HG2 := Lib.hid hg2; have HE2 := Lib.hid he2; clear ho2 hg2 he2)
    go_ret
    exact ⟨v, rfl, HO2.out, HG2.out, HE2.out.imp id (fun e g hg => by rw [e] at hg; injection hg with hg; omega)⟩
set_option maxRecDepth 100000 in
set_option maxHeartbeats 4000000 in
/-- In between, where there is room. -/
theorem ins_room_p (n i g c gx : Nat) (us xs : List Value) (w : World) (h : w.ownsRow 0 tP 2 (.slice (some ⟨g, 0, none⟩) n c) n us) (hx : Cel w gx tP xs.toArray) (hne : gx ≠ g) (hxl : xs.length = 2) (h1 : ∀ u ∈ xs, u.oneCell' = true) (h2 : ∀ u ∈ us, u.oneCell' = true) (hn : n ≤ 1000) (hi : i < n) (hroom : n + 1 ≤ c) (Z : List Value) (hZ : us.take (i * 2) ++ xs ++ us.drop (i * 2) = Z) :
    Calls Try.prog 42 #[.slice (some ⟨g, 0, none⟩) n c, .int .i64 (i : Int), .slice (some ⟨gx, 0, none⟩) 1 1] w (Ins w tP 2 (n + 1) (.slice (some ⟨g, 0, none⟩) n c) Z) := by
  have HZ := Lib.hid hZ
  clear hZ
  have hus := h.1
  rcases h.2 with ⟨e, _⟩ | ⟨g', c', cur, e, _, hh, hnc, hcm, hsz, htk⟩
  · cases e
  injection e with e1 e2 e3
  injection e1 with e1
  injection e1 with e1
  subst e1 e3
  obtain ⟨L, rfl⟩ : ∃ L : List Value, cur = L.toArray := ⟨cur.toList, by simp⟩
  have hLl : L.length = c * 2 := by simpa using hsz
  have hLt : L.take (n * 2) = us := by simpa using htk
  have hcm2 : c ≤ 9223372036854775807 := by unfold maxLen at hcm; omega
  have hik : i * 2 + 2 ≤ n * 2 := by omega
  have hcel : Cel w g tP L.toArray := hh
  obtain ⟨o1, ho1, hs1⟩ := slice_l elemP g n c i (by omega) hnc
  have hs2 := slice_h elemP (some ⟨g, 0, none⟩) n c (n + 1) hroom
  obtain ⟨o3, ho3, hs3⟩ := slice_l elemP g (n + 1) c (i + 1) (by omega) hroom
  obtain ⟨o4, ho4, hs4⟩ := slice_l elemP g (n + 1) c i (by omega) hroom
  have hov : ∀ lb cb, (callFunc 55 #[.slice (some ⟨gx, 0, none⟩) 1 1, .slice (some ⟨g, o3, none⟩) lb cb]).run Try.prog w = .ok (.value (.bool false)) w := fun lb cb => by
    rw [run_callFunc_extern Try.func55 (by kernel_rfl) (by kernel_rfl) (by kernel_rfl) (e := Extern.SlicesOverlaps.overlaps #[37, 37] #[4]) (by kernel_rfl),
      Lib.run_overlaps_apart w 37 4 tP (elem_run elemP) 2 (size_run elemP) ⟨gx, 0, none⟩ ⟨g, o3, none⟩ 1 1 lb cb hne _ _ _ _ (cel_shape hx) (cel_shape hcel) (by show L.toArray.size ≠ 0; rw [List.size_toArray, hLl]; omega) (hx.open_ _) (hx.open_ _)]
    rfl
  have t0 : ((i : Int) == (n : Int)) = false := by simp; omega
  have t1 : IntKind.i64.wrap ((n : Int) + 1) = ((n + 1 : Nat) : Int) := by rw [IntKind.wrap_i64]; omega
  have t2 : IntKind.i64.wrap ((i : Int) + 1) = ((i + 1 : Nat) : Int) := by rw [IntKind.wrap_i64]; omega
  have t3 : (n : Int) + 1 = ((n + 1 : Nat) : Int) := by omega
  have t4 : (i : Int) + 1 = ((i + 1 : Nat) : Int) := by omega
  have HO3 := Lib.hid (show o3 = (i + 1) * 2 from ho3 (by omega))
  have HO4 := Lib.hid (show o4 = i * 2 from ho4 (by omega))
  have t5 : IntKind.i64.wrap ((i + 1 : Nat) : Int) = ((i + 1 : Nat) : Int) := by rw [IntKind.wrap_i64]; omega
  have t6 : IntKind.i64.wrap ((n + 1 : Nat) : Int) = ((n + 1 : Nat) : Int) := by rw [IntKind.wrap_i64]; omega
  obtain ⟨n1, hn1⟩ : ∃ n1, n + 1 = n1 := ⟨_, rfl⟩
  obtain ⟨i1, hi1⟩ : ∃ i1, i + 1 = i1 := ⟨_, rfl⟩
  rw [hn1] at hs2 hs3 hs4 t1 t3 t6 hroom ⊢
  rw [hi1] at hs3 t2 t4 t5 HO3
  have HD := Lib.hid (show ∀ j v, (us.drop (i * 2))[j]? = some v → w.drew.cell? ((⟨g, o4, none⟩ : Addr).add j) = some v by
    rw [HO4.out]
    refine cel_cells (w := w) hcel _ _ (fun j v hj => ?_)
    rw [List.getElem?_drop] at hj
    rw [← hLt, List.getElem?_take] at hj
    split at hj
    · exact hj
    · cases hj)
  have HX := Lib.hid hx
  have HXL := Lib.hid hxl
  have HUS := Lib.hid hus
  have HLL := Lib.hid hLl
  have HLT := Lib.hid hLt
  have HCEL := Lib.hid hcel
  have H1 := Lib.hid h1
  have H2 := Lib.hid (show ∀ u ∈ us.drop (i * 2), u.oneCell' = true from fun u hu => h2 u (List.mem_of_mem_drop hu))
  have HN1 := Lib.hid hn1
  have HI1 := Lib.hid hi1
  have hin1 : i1 ≤ n1 := by omega
  have hin2 : i ≤ n1 := by omega
  have hin3 : ¬ (c : Int) < (n1 : Int) := by omega
  have hxd : (us.drop (i * 2)).length = (n - i) * 2 := by rw [List.length_drop, hus, Nat.sub_mul]
  have HXD := Lib.hid hxd
  clear h hx hxl h1 h2 ho1 ho3 ho4 hus hLl hLt hcel hh htk hsz hn1 hi1 hik hxd
  go_enter Try.func42, Try.ntmps42
  go_upto_region 15 with (simp only [hov])
  go_region_law (refine step_copy_row elemP rfl (.tmp 73) (.tmp 76) rfl (w := w.drew) (g := g) (L := L) HCEL.out ((i + 1) * 2) o3 (n1 - i1) (c - i1) ⟨g, o4, none⟩ (n1 - i) (c - i) (n - i) (us.drop (i * 2)) (by simp [Act.eval, Act.put]) (by simp [Act.eval, Act.put]) (by have := HI1.out; rw [HO3.out, this]) (by have := HN1.out; have := HI1.out; simp only [Nat.min_def]; split <;> omega) HXD.out HD.out (by have h1 := HXD.out; have h2 := HLL.out; have h3 := HN1.out; omega) H2.out ?_; intro w2 HW2 hg2; have HG2 := Lib.hid (drew_grown hg2); have HX2 := Lib.hid (show Cel w2 gx tP xs.toArray from (hg2.block gx (blk_lt HX.out) (fun e => by injection e with e; exact hne e)).trans HX.out); clear hg2)
  go_wp2_with (with_reducible refine wpList_copy_row elemP rfl (.tmp 80) (.tmp 81) rfl HW2.out (i * 2) o4 (n1 - i) (c - i) ⟨gx, 0, none⟩ 1 1 1 xs rfl rfl HO4.out (by have := HN1.out; simp only [Nat.min_def]; split <;> omega) (by rw [HXL.out]) (cel_cells HX2.out 0 xs (fun j v hj => by rwa [Nat.zero_add])) (by rw [HXL.out, length_splice _ _ _ (by have h1 := HXD.out; have h2 := HLL.out; have h3 := HN1.out; omega)]; have h2 := HLL.out; have h3 := HN1.out; omega) H1.out ?_; intro w3 HW3 hg3; have HG3 := Lib.hid (grown_trans HG2.out hg3); clear hg3)
  go_ret
  have hl2 : (splice L ((i + 1) * 2) (us.drop (i * 2))).length = c * 2 := by
    rw [length_splice _ _ _ (by have h1 := HXD.out; have h2 := HLL.out; have h3 := HN1.out; omega)]; exact HLL.out
  have hl3 : (splice (splice L ((i + 1) * 2) (us.drop (i * 2))) (i * 2) xs).length = c * 2 := by
    rw [length_splice _ _ _ (by rw [hl2, HXL.out]; have h3 := HN1.out; omega)]; exact hl2
  have ho := cel_own (n := n1) HW3.out hroom hcm hl3
  have hfin := ins_two (L := L) (us := us) (xs := xs) (a := i * 2) (m := 2) (d := (n - i) * 2) (by rw [← HLT.out, List.take_take]; congr 1; omega) HXL.out (by rw [HUS.out]; omega) (by rw [HUS.out, ← Nat.sub_mul]) (by have h2 := HLL.out; have h3 := HN1.out; omega)
  have e1 : (i + 1) * 2 = i * 2 + 2 := by omega
  have e2 : n1 * 2 = i * 2 + 2 + (n - i) * 2 := by have h3 := HN1.out; omega
  rw [e1, e2, hfin, HZ.out] at ho
  exact ⟨_, rfl, ho, HG3.out, .inl rfl⟩
set_option maxRecDepth 100000 in
set_option maxHeartbeats 4000000 in
/-- At the end. -/
theorem ins_end_k (n gx : Nat) (v : Value) (us xs : List Value) (w : World) (h : w.ownsRow 0 tK 1 v n us) (hx : Cel w gx tK xs.toArray) (hxl : xs.length = 1) (h1 : ∀ u ∈ xs, u.oneCell' = true) (hn : n ≤ 1000) :
    Calls Try.prog 64 #[v, .int .i64 (n : Int), .slice (some ⟨gx, 0, none⟩) 1 1] w (Ins w tK 1 (n + 1) v (us ++ xs)) := by
  have HC := Lib.hid (show ∀ j u, xs[j]? = some u → w.cell? ((⟨gx, 0, none⟩ : Addr).add j) = some u from cel_cells hx 0 xs (fun j v hj => by rwa [Nat.zero_add]))
  have HO := Lib.hid h
  have H1 := Lib.hid h1
  have HL := Lib.hid (show xs.length = 1 * 1 by rw [hxl])
  have t0 : ((n : Int) == (n : Int)) = true := by simp
  obtain ⟨i, z, ht, hi, hz, hz1, hz2, hzc, hk⟩ := elemK
  have HT := Lib.hid ht
  have HI := Lib.hid hi
  have HZ := Lib.hid hz
  rcases h.2 with ⟨rfl, rfl⟩ | ⟨g, c, cur, rfl, _, hh, hnc, hcm, _⟩
  · clear h hx hxl h1 ht hi hz t0
    go_enter Try.func64, Try.ntmps64
    go_wp2_with (at_builtin; refine wpList_append_own_at _ rfl (.tmp 23) (.tmp 24) 50 rfl 0 tK i z 1 8 HT.out HI.out HZ.out hz1 hz2 hzc hk _ 0 us rfl HO.out ⟨gx, 0, none⟩ 1 1 xs rfl HL.out HC.out H1.out (by unfold maxLen; omega) (by omega) (Nat.zero_le _) ?_; intro v w2 ho2 hg2 _ he2; have HO2 := Lib.hid ho2; have HG2 := Lib.hid hg2; have HE2 := Lib.hid he2; clear ho2 hg2 he2)
    go_ret
    exact ⟨v, rfl, HO2.out, HG2.out, HE2.out.imp id (fun e g hg => by rw [e] at hg; injection hg with hg; omega)⟩
  · obtain ⟨o1, ho1, hs1⟩ := slice_l elemK g n c n (Nat.le_refl _) hnc
    clear h hx hxl h1 ht hi hz hh ho1
    go_enter Try.func64, Try.ntmps64
    go_wp2_with (at_builtin; refine wpList_append_own_at _ rfl (.tmp 23) (.tmp 24) 50 rfl 0 tK i z 1 8 HT.out HI.out HZ.out hz1 hz2 hzc hk _ n us rfl HO.out ⟨gx, 0, none⟩ 1 1 xs rfl HL.out HC.out H1.out (by unfold maxLen; omega) (by omega) (Nat.zero_le _) ?_; intro v w2 ho2 hg2 _ he2; have HO2 := Lib.hid ho2; have HG2 := Lib.hid hg2; have HE2 := Lib.hid he2; clear ho2 hg2 he2)
    go_ret
    exact ⟨v, rfl, HO2.out, HG2.out, HE2.out.imp id (fun e g hg => by rw [e] at hg; injection hg with hg; omega)⟩
set_option maxRecDepth 100000 in
set_option maxHeartbeats 4000000 in
/-- In between, where there is room. -/
theorem ins_room_k (n i g c gx : Nat) (us xs : List Value) (w : World) (h : w.ownsRow 0 tK 1 (.slice (some ⟨g, 0, none⟩) n c) n us) (hx : Cel w gx tK xs.toArray) (hne : gx ≠ g) (hxl : xs.length = 1) (h1 : ∀ u ∈ xs, u.oneCell' = true) (h2 : ∀ u ∈ us, u.oneCell' = true) (hn : n ≤ 1000) (hi : i < n) (hroom : n + 1 ≤ c) (Z : List Value) (hZ : us.take (i * 1) ++ xs ++ us.drop (i * 1) = Z) :
    Calls Try.prog 64 #[.slice (some ⟨g, 0, none⟩) n c, .int .i64 (i : Int), .slice (some ⟨gx, 0, none⟩) 1 1] w (Ins w tK 1 (n + 1) (.slice (some ⟨g, 0, none⟩) n c) Z) := by
  have HZ := Lib.hid hZ
  clear hZ
  have hus := h.1
  rcases h.2 with ⟨e, _⟩ | ⟨g', c', cur, e, _, hh, hnc, hcm, hsz, htk⟩
  · cases e
  injection e with e1 e2 e3
  injection e1 with e1
  injection e1 with e1
  subst e1 e3
  obtain ⟨L, rfl⟩ : ∃ L : List Value, cur = L.toArray := ⟨cur.toList, by simp⟩
  have hLl : L.length = c * 1 := by simpa using hsz
  have hLt : L.take (n * 1) = us := by simpa using htk
  have hcm2 : c ≤ 9223372036854775807 := by unfold maxLen at hcm; omega
  have hik : i * 1 + 1 ≤ n * 1 := by omega
  have hcel : Cel w g tK L.toArray := hh
  obtain ⟨o1, ho1, hs1⟩ := slice_l elemK g n c i (by omega) hnc
  have hs2 := slice_h elemK (some ⟨g, 0, none⟩) n c (n + 1) hroom
  obtain ⟨o3, ho3, hs3⟩ := slice_l elemK g (n + 1) c (i + 1) (by omega) hroom
  obtain ⟨o4, ho4, hs4⟩ := slice_l elemK g (n + 1) c i (by omega) hroom
  have hov : ∀ lb cb, (callFunc 70 #[.slice (some ⟨gx, 0, none⟩) 1 1, .slice (some ⟨g, o3, none⟩) lb cb]).run Try.prog w = .ok (.value (.bool false)) w := fun lb cb => by
    rw [run_callFunc_extern Try.func70 (by kernel_rfl) (by kernel_rfl) (by kernel_rfl) (e := Extern.SlicesOverlaps.overlaps #[50, 50] #[4]) (by kernel_rfl),
      Lib.run_overlaps_apart w 50 4 tK (elem_run elemK) 1 (size_run elemK) ⟨gx, 0, none⟩ ⟨g, o3, none⟩ 1 1 lb cb hne _ _ _ _ (cel_shape hx) (cel_shape hcel) (by show L.toArray.size ≠ 0; rw [List.size_toArray, hLl]; omega) (hx.open_ _) (hx.open_ _)]
    rfl
  have t0 : ((i : Int) == (n : Int)) = false := by simp; omega
  have t1 : IntKind.i64.wrap ((n : Int) + 1) = ((n + 1 : Nat) : Int) := by rw [IntKind.wrap_i64]; omega
  have t2 : IntKind.i64.wrap ((i : Int) + 1) = ((i + 1 : Nat) : Int) := by rw [IntKind.wrap_i64]; omega
  have t3 : (n : Int) + 1 = ((n + 1 : Nat) : Int) := by omega
  have t4 : (i : Int) + 1 = ((i + 1 : Nat) : Int) := by omega
  have HO3 := Lib.hid (show o3 = (i + 1) * 1 from ho3 (by omega))
  have HO4 := Lib.hid (show o4 = i * 1 from ho4 (by omega))
  have t5 : IntKind.i64.wrap ((i + 1 : Nat) : Int) = ((i + 1 : Nat) : Int) := by rw [IntKind.wrap_i64]; omega
  have t6 : IntKind.i64.wrap ((n + 1 : Nat) : Int) = ((n + 1 : Nat) : Int) := by rw [IntKind.wrap_i64]; omega
  obtain ⟨n1, hn1⟩ : ∃ n1, n + 1 = n1 := ⟨_, rfl⟩
  obtain ⟨i1, hi1⟩ : ∃ i1, i + 1 = i1 := ⟨_, rfl⟩
  rw [hn1] at hs2 hs3 hs4 t1 t3 t6 hroom ⊢
  rw [hi1] at hs3 t2 t4 t5 HO3
  have HD := Lib.hid (show ∀ j v, (us.drop (i * 1))[j]? = some v → w.drew.cell? ((⟨g, o4, none⟩ : Addr).add j) = some v by
    rw [HO4.out]
    refine cel_cells (w := w) hcel _ _ (fun j v hj => ?_)
    rw [List.getElem?_drop] at hj
    rw [← hLt, List.getElem?_take] at hj
    split at hj
    · exact hj
    · cases hj)
  have HX := Lib.hid hx
  have HXL := Lib.hid hxl
  have HUS := Lib.hid hus
  have HLL := Lib.hid hLl
  have HLT := Lib.hid hLt
  have HCEL := Lib.hid hcel
  have H1 := Lib.hid h1
  have H2 := Lib.hid (show ∀ u ∈ us.drop (i * 1), u.oneCell' = true from fun u hu => h2 u (List.mem_of_mem_drop hu))
  have HN1 := Lib.hid hn1
  have HI1 := Lib.hid hi1
  have hin1 : i1 ≤ n1 := by omega
  have hin2 : i ≤ n1 := by omega
  have hin3 : ¬ (c : Int) < (n1 : Int) := by omega
  have hxd : (us.drop (i * 1)).length = (n - i) * 1 := by rw [List.length_drop, hus, Nat.sub_mul]
  have HXD := Lib.hid hxd
  clear h hx hxl h1 h2 ho1 ho3 ho4 hus hLl hLt hcel hh htk hsz hn1 hi1 hik hxd
  go_enter Try.func64, Try.ntmps64
  go_upto_region 15 with (simp only [hov])
  go_region_law (refine step_copy_row elemK rfl (.tmp 73) (.tmp 76) rfl (w := w.drew) (g := g) (L := L) HCEL.out ((i + 1) * 1) o3 (n1 - i1) (c - i1) ⟨g, o4, none⟩ (n1 - i) (c - i) (n - i) (us.drop (i * 1)) (by simp [Act.eval, Act.put]) (by simp [Act.eval, Act.put]) (by have := HI1.out; rw [HO3.out, this]) (by have := HN1.out; have := HI1.out; simp only [Nat.min_def]; split <;> omega) HXD.out HD.out (by have h1 := HXD.out; have h2 := HLL.out; have h3 := HN1.out; omega) H2.out ?_; intro w2 HW2 hg2; have HG2 := Lib.hid (drew_grown hg2); have HX2 := Lib.hid (show Cel w2 gx tK xs.toArray from (hg2.block gx (blk_lt HX.out) (fun e => by injection e with e; exact hne e)).trans HX.out); clear hg2)
  go_wp2_with (with_reducible refine wpList_copy_row elemK rfl (.tmp 80) (.tmp 81) rfl HW2.out (i * 1) o4 (n1 - i) (c - i) ⟨gx, 0, none⟩ 1 1 1 xs rfl rfl HO4.out (by have := HN1.out; simp only [Nat.min_def]; split <;> omega) (by rw [HXL.out]) (cel_cells HX2.out 0 xs (fun j v hj => by rwa [Nat.zero_add])) (by rw [HXL.out, length_splice _ _ _ (by have h1 := HXD.out; have h2 := HLL.out; have h3 := HN1.out; omega)]; have h2 := HLL.out; have h3 := HN1.out; omega) H1.out ?_; intro w3 HW3 hg3; have HG3 := Lib.hid (grown_trans HG2.out hg3); clear hg3)
  go_ret
  have hl2 : (splice L ((i + 1) * 1) (us.drop (i * 1))).length = c * 1 := by
    rw [length_splice _ _ _ (by have h1 := HXD.out; have h2 := HLL.out; have h3 := HN1.out; omega)]; exact HLL.out
  have hl3 : (splice (splice L ((i + 1) * 1) (us.drop (i * 1))) (i * 1) xs).length = c * 1 := by
    rw [length_splice _ _ _ (by rw [hl2, HXL.out]; have h3 := HN1.out; omega)]; exact hl2
  have ho := cel_own (n := n1) HW3.out hroom hcm hl3
  have hfin := ins_two (L := L) (us := us) (xs := xs) (a := i * 1) (m := 1) (d := (n - i) * 1) (by rw [← HLT.out, List.take_take]; congr 1; omega) HXL.out (by rw [HUS.out]; omega) (by rw [HUS.out, ← Nat.sub_mul]) (by have h2 := HLL.out; have h3 := HN1.out; omega)
  have e1 : (i + 1) * 1 = i * 1 + 1 := by omega
  have e2 : n1 * 1 = i * 1 + 1 + (n - i) * 1 := by have h3 := HN1.out; omega
  rw [e1, e2, hfin, HZ.out] at ho
  exact ⟨_, rfl, ho, HG3.out, .inl rfl⟩
end Go.Proofs.Ytjlfacmmokfleaa.Bt
