import Derived.Test.YtfaehioeepolhaaGreatJOpenSender2
import Derived.Test.YtfaehioeepolhaaGreatJOpenSender11
import Derived.Test.YtfaehioeepolhaaGreatJOpenSender9
import Derived.Test.YtfaehioeepolhaaGreatJOpenSender8
import Derived.Laws.AppendOwnNone
namespace Go.Proofs.YtfaehioeepolhaaGreat
def nameB (c : Nat) : Bool := (decide (97 ≤ c) && decide (c ≤ 122)) || (decide (65 ≤ c) && decide (c ≤ 90)) || (decide (48 ≤ c) && decide (c ≤ 57)) || decide (c = 95)
theorem nameB_split (c : Nat) : ((c < 48 ∨ (58 ≤ c ∧ c ≤ 64) ∨ (91 ≤ c ∧ c ≤ 94) ∨ c = 96 ∨ 123 ≤ c) ∧ nameB c = false) ∨ (((48 ≤ c ∧ c ≤ 57) ∨ (65 ≤ c ∧ c ≤ 90) ∨ c = 95 ∨ (97 ≤ c ∧ c ≤ 122)) ∧ nameB c = true) := by
  by_cases h : c < 48 ∨ (58 ≤ c ∧ c ≤ 64) ∨ (91 ≤ c ∧ c ≤ 94) ∨ c = 96 ∨ 123 ≤ c
  · refine .inl ⟨h, ?_⟩
    simp [nameB]; omega
  · refine .inr ⟨by omega, ?_⟩
    simp [nameB]; omega
def nameOK (n : List Nat) : Bool := decide (1 ≤ n.length) && decide (n.length ≤ 20) && n.all nameB
def widthOK (w : Int) : Bool := decide (w = 1 ∨ w = 2 ∨ w = 4 ∨ w = 8)
def kindOK (f : PF) : Bool := if f.kind = 1 then widthOK f.width else decide (0 ≤ f.kind) && decide (f.kind ≤ 3) && decide (f.width = 0)
def fieldOK (f : PF) : Bool := nameOK f.name && kindOK f
def taken (fs : List PF) (n : List Nat) : Bool := fs.any fun f => decide (f.name = n)
def okTo (fs : List PF) : Nat → Bool
  | 0 => true
  | k + 1 => okTo fs k && (match fs[k]? with | some f => fieldOK f && !taken (fs.take k) f.name | none => true)
def fieldsOK (fs : List PF) : Bool := decide (1 ≤ fs.length) && decide (fs.length ≤ 12) && okTo fs fs.length
theorem okTo_bad {fs : List PF} {k : Nat} (h : okTo fs k = false) : ∀ m, k ≤ m → okTo fs m = false := by
  intro m hm
  induction m with
  | zero => have : k = 0 := by omega
            subst this; exact h
  | succ m ih =>
    by_cases e : k = m + 1
    · subst e; exact h
    · simp [okTo, ih (by omega)]
theorem okTo_succ {fs : List PF} {k : Nat} (hk : k < fs.length) : okTo fs (k + 1) = (okTo fs k && (fieldOK fs[k] && !taken (fs.take k) fs[k].name)) := by simp [okTo, hk]
theorem fieldsOK_bad {fs : List PF} {k : Nat} (hk : k < fs.length) (h : fieldOK fs[k] = false ∨ taken (fs.take k) fs[k].name = true) : fieldsOK fs = false := by
  have : okTo fs (k + 1) = false := by rw [okTo_succ hk]; rcases h with h | h <;> simp [h]
  simp [fieldsOK, okTo_bad this fs.length (by omega)]
theorem taken_at {fs : List PF} {n : List Nat} {k : Nat} (hk : k < fs.length) (h : fs[k].name = n) : taken fs n = true := by
  simp only [taken, List.any_eq_true, decide_eq_true_eq]
  exact ⟨fs[k], List.getElem_mem hk, h⟩
theorem not_taken {fs : List PF} {n : List Nat} (h : ∀ k, (hk : k < fs.length) → fs[k].name ≠ n) : taken fs n = false := by
  simp only [taken, List.any_eq_false, decide_eq_true_eq]
  intro f hf
  obtain ⟨k, hk, rfl⟩ := List.getElem_of_mem hf
  exact h k hk
theorem all_bad {xs : List Nat} {p : Nat → Bool} {k : Nat} (hk : k < xs.length) (h : p xs[k] = false) : xs.all p = false := by
  simp only [List.all_eq_false]
  exact ⟨xs[k], List.getElem_mem hk, by simp [h]⟩
theorem all_ok {xs : List Nat} {p : Nat → Bool} (h : ∀ k, (hk : k < xs.length) → p xs[k] = true) : xs.all p = true := by
  simp only [List.all_eq_true]
  intro x hx
  obtain ⟨k, hk, rfl⟩ := List.getElem_of_mem hx
  exact h k hk
end Go.Proofs.YtfaehioeepolhaaGreat
namespace Go.Proofs.YtfaehioeepolhaaGreat
open Go.RowKit
def hdrF (f : PF) : List Nat := f.kind.toNat :: f.width.toNat :: f.name
def hdrB (fs : List PF) (n : Nat) : List (List Nat) := digs n 8 :: fs.map hdrF
def startOK (fs : List PF) (next : Int) : Bool := fieldsOK fs && decide (0 ≤ next ∧ next ≤ 1000000000)
def startS (fs : List PF) (next : Int) : PStr := if startOK fs next = true then ⟨true, fs, next, List.replicate fs.length []⟩ else ⟨false, [], 0, []⟩
def startB (fs : List PF) (next : Int) : List Nat := if startOK fs next = true then encM 1 0 fs.length (hdrB fs next.toNat) else []
def startC (fs : List PF) (next : Int) : Int := if startOK fs next = true then 0 else 1
theorem okTo_at {fs : List PF} : ∀ m, okTo fs m = true → ∀ k, k < m → (h : k < fs.length) → fieldOK fs[k] = true := by
  intro m
  induction m with
  | zero => intro _ k h; omega
  | succ m ih =>
    intro h k hk hl
    simp only [okTo, Bool.and_eq_true] at h
    by_cases e : k = m
    · subst e
      have h2 := h.2
      rw [List.getElem?_eq_getElem hl] at h2
      simp only [Bool.and_eq_true] at h2
      exact h2.1
    · exact ih h.1 k (by omega) hl
theorem fieldOK_bounds {f : PF} (h : fieldOK f = true) : 1 ≤ f.name.length ∧ f.name.length ≤ 20 ∧ 0 ≤ f.kind ∧ f.kind ≤ 3 ∧ 0 ≤ f.width ∧ f.width ≤ 8 := by
  simp only [fieldOK, nameOK, Bool.and_eq_true, decide_eq_true_eq] at h
  obtain ⟨⟨⟨h1, h2⟩, _⟩, h3⟩ := h
  refine ⟨h1, h2, ?_⟩
  unfold kindOK at h3
  split at h3
  · rename_i e
    simp only [widthOK, decide_eq_true_eq] at h3
    omega
  · simp only [Bool.and_eq_true, decide_eq_true_eq] at h3
    omega
theorem fieldsOK_bounds {fs : List PF} (h : fieldsOK fs = true) : fs.length ≤ 12 ∧ ∀ k, (hk : k < fs.length) → 1 ≤ fs[k].name.length ∧ fs[k].name.length ≤ 20 ∧ 0 ≤ fs[k].kind ∧ fs[k].kind ≤ 3 ∧ 0 ≤ fs[k].width ∧ fs[k].width ≤ 8 := by
  simp only [fieldsOK, Bool.and_eq_true, decide_eq_true_eq] at h
  exact ⟨h.1.2, fun k hk => fieldOK_bounds (okTo_at _ h.2 k hk hk)⟩
theorem hdrB_len (fs : List PF) (n : Nat) : (hdrB fs n).length = fs.length + 1 := by simp [hdrB]
theorem hdrB_take (fs : List PF) (n k : Nat) (h : k < fs.length) : (hdrB fs n).take (k + 2) = (hdrB fs n).take (k + 1) ++ [hdrF fs[k]] := by
  have e : hdrF fs[k] = (fs.map hdrF)[k]'(by simpa using h) := by simp
  show (digs n 8 :: fs.map hdrF).take (k + 1 + 1) = (digs n 8 :: fs.map hdrF).take (k + 1) ++ [hdrF fs[k]]
  rw [List.take_succ_cons, List.take_succ_cons, List.take_succ_eq_append_getElem (by simpa using h), e]
  rfl
theorem hdr_tot {fs : List PF} (n : Nat) (h : fieldsOK fs = true) : tot (hdrB fs n) ≤ 272 := by
  obtain ⟨hl, hb⟩ := fieldsOK_bounds h
  have key : ∀ k, k ≤ fs.length → tot ((fs.map hdrF).take k) ≤ 22 * k := by
    intro k
    induction k with
    | zero => intro _; simp [tot]
    | succ k ih =>
      intro hk
      rw [tot_snoc _ k (by simp; omega)]
      have := ih (by omega)
      have := hb k hk
      simp [hdrF]
      omega
  have h1 := key fs.length (Nat.le_refl _)
  rw [List.take_of_length_le (by simp)] at h1
  have h2 : tot (hdrB fs n) = 8 + tot (fs.map hdrF) := by simp [hdrB, tot, digs_len]
  omega
theorem join_le (xss : List (List Nat)) : (join xss).length ≤ tot xss + 7 * xss.length := by
  have key : ∀ k, k ≤ xss.length → (join (xss.take k)).length ≤ tot (xss.take k) + 7 * k := by
    intro k
    induction k with
    | zero => intro _; simp [join]
    | succ k ih =>
      intro h
      rw [join_next xss k h, tot_snoc xss k h]
      have := ih (by omega)
      have := (evn_le xss[k].length).2.1
      omega
  have := key xss.length (Nat.le_refl _)
  rwa [List.take_length] at this
theorem hdr_fits {fs : List PF} (n : Nat) (h : fieldsOK fs = true) : (encM 1 0 fs.length (hdrB fs n)).length ≤ 20000 := by
  have h1 := hdr_tot n h
  have h2 := join_le (lensM (hdrB fs n) :: hdrB fs n)
  have h3 : tot (lensM (hdrB fs n) :: hdrB fs n) = 4 * (hdrB fs n).length + tot (hdrB fs n) := by simp [tot, lensM_len]
  have h4 := (fieldsOK_bounds h).1
  rw [hdrB_len] at h3
  simp only [encM, bodyM, List.length_append, headM_len, digs_len]
  simp only [List.length_cons, hdrB_len] at h2
  omega
end Go.Proofs.YtfaehioeepolhaaGreat
namespace Go.Proofs.YtfaehioeepolhaaGreat
open Go.RowKit
theorem infoByteJspec : (Tryz.prog.info? 5).map (fun i => (i.zero, i.size, i.bytes)) = some (some (.int .u8 0), 1, 1) := by kernel_rfl
theorem join_len (xss : List (List Nat)) : (join xss).length ≤ tot xss + 8 * xss.length := by
  have key : ∀ k, k ≤ xss.length → (join (xss.take k)).length ≤ tot (xss.take k) + 8 * k := by
    intro k
    induction k with
    | zero => intro _; simp [join]
    | succ k ih =>
      intro h
      have h1 := ih (by omega)
      rw [join_snoc xss k (by omega), joinStep_len, tot_snoc xss k (by omega)]
      have := padn_le ((join (xss.take k)).length + xss[k].length)
      omega
  have := key xss.length (Nat.le_refl _)
  rwa [List.take_length] at this
set_option maxHeartbeats 2000000 in
set_option maxRecDepth 100000 in
theorem specJoin_any (a : Option Addr) (cap : Nat) (xss : List (List Nat)) (w : World) (hr : RdSS w a xss) (hn : xss.length ≤ 1048576) (ht : tot xss ≤ 1048576) :
    Calls Tryz.prog 185 #[.slice a xss.length cap] w fun e w' => ∃ a' c', e = .returned (.slice a' (join xss).length c') ∧ w'.ownsRow w.heap.size 5 1 (.slice a' (join xss).length c') (join xss).length (byt (join xss)) ∧ Below w.heap.size w w' := by
  obtain ⟨i0, hi, hz0, hz1, hz2⟩ := info_parts infoByteJspec
  have HR := hid hr
  clear hr
  go_enter Tryz.func185, Tryz.ntmps185
  go_wp2
  go_loopw [3, 4] (fun v i wr => ∃ k : Nat, k ≤ xss.length ∧ i = .int .i64 k ∧ wr.ownsRow w.heap.size 5 1 v (join (xss.take k)).length (byt (join (xss.take k))) ∧ (join (xss.take k)).length ≤ tot (xss.take k) + 8 * k ∧ Below w.heap.size w wr) (fun _ i _ => xss.length - (intOf i).toNat)
  case atStart => exact ⟨0, Nat.zero_le _, rfl, by simpa [byt, join] using World.ownsRow_nil _ _ _ _, by simp [join], Below.refl _ _⟩
  case round =>
    obtain ⟨k, hk, rfl, how, hle, hbe⟩ := hrel
    have HO := hid how
    have HB := hid hbe
    have HLE := hid hle
    clear how hbe hle
    by_cases hlt : k < xss.length
    · obtain ⟨b, off, a', c', rfl, hcb, hrr, hzz⟩ := (HR.out.later HB.out).at_ hlt
      have HRR := hid hrr
      have hlk := len_le_tot xss k hlt
      have htk := tot_take xss k
      have HTS := hid (tot_snoc xss k hlt)
      have HJ := hid (join_snoc xss k hlt)
      have hki : (k : Int) < (xss.length : Int) := by omega
      have hlen : (join (xss.take k)).length ≤ 9437184 := by have := HLE.out; omega
      obtain ⟨Z, hZ⟩ : ∃ Z, Z = join (xss.take k) ++ xss[k] := ⟨_, rfl⟩
      have hZl : Z.length ≤ 10485760 := by rw [hZ, List.length_append]; omega
      have HZ := hid hZ
      clear hrr hZ
      cases a' with
      | none =>
        obtain rfl := hzz rfl
        have h0 : xss[k] = [] := by
          rcases HRR.out with h | ⟨_, _, h, _⟩
          · simpa [byt] using h
          · cases h
        have h0l : xss[k].length = 0 := by rw [h0]; rfl
        rw [h0l] at hcb
        have HBz := hid HB.out
        have HEz : Hid (Z = join (xss.take k)) := hid (by rw [HZ.out, h0, List.append_nil])
        have hOz := HO.out
        rw [← HEz.out] at hOz
        have HOz := hid hOz
        clear h0 h0l hOz
        go_wp2_with (first | (at_builtin; refine wpList_append_own_none rfl _ _ 23 rfl w.heap.size 5 i0 1 Tryz.underlying23 hi _ _ _ rfl HO.out rfl ?_))
        go_wp2
        go_loopw [3] (fun v wx => ∃ p : Nat, p ≤ padn Z.length ∧ wx.ownsRow w.heap.size 5 1 v (Z.length + p) (byt (Z ++ List.replicate p 0)) ∧ Below w.heap.size w wx) (fun v _ => padn Z.length + Z.length - lenOf v)
        case atStart => exact ⟨0, Nat.zero_le _, by simpa using HOz.out, HBz.out⟩
        case round =>
          obtain ⟨p, hp, how, hbe⟩ := hrel
          have hp7 := padn_le Z.length
          have HD := hid (padn_done hp)
          obtain ⟨a2, c2, rfl, _⟩ := rd_own how
          have HO3 := hid how
          have HB3 := hid hbe
          clear how hbe HOz HBz
          by_cases hd : p = padn Z.length
          · have ht : (((Z.length : Int) + (p : Int)) % 8 != 0) = false := by
              have := HD.out.2 hd
              simp; omega
            have HO4 : Hid (wr.ownsRow w.heap.size 5 1 (.slice a2 (Z.length + p) c2) (join (xss.take (k + 1))).length (byt (join (xss.take (k + 1))))) := hid (by
              rw [HJ.out]
              have h := HO3.out
              have e : Z ++ List.replicate p 0 = joinStep (join (xss.take k)) xss[k] := by rw [hd, HZ.out]; rfl
              have e2 : Z.length + p = (joinStep (join (xss.take k)) xss[k]).length := by rw [← e]; simp
              rw [e] at h
              rw [← e2]; exact h)
            have HLE2 : Hid ((join (xss.take (k + 1))).length ≤ tot (xss.take (k + 1)) + 8 * (k + 1)) := hid (by
              rw [HJ.out, joinStep_len, HTS.out]
              have := padn_le ((join (xss.take k)).length + xss[k].length)
              have := HLE.out; omega)
            clear hd
            go_wp2
            go_roundw
            case rel => exact ⟨k + 1, by omega, by go_num, HO4.out, HLE2.out, HB3.out⟩
            case measure => simp [intOf]; omega
          · have ht : (((Z.length : Int) + (p : Int)) % 8 != 0) = true := by
              have := mt HD.out.1 hd
              simp; omega
            go_wp2_with (first | (at_builtin; refine wpList_append_own _ rfl _ _ 23 rfl w.heap.size 5 i0 (.int .u8 0) 1 1 Tryz.underlying23 hi hz0 hz1 hz2 rfl (by decide) _ (Z.length + p) _ rfl (HO3.out.alloc _) ⟨wr.heap.size, 0, none⟩ 1 1 [.int .u8 0] rfl rfl (cell_one_new _ _ _) (one_cell rfl) (by unfold maxLen; omega) (by omega) (by have := HB3.out.size; simp; omega) ?_))
            intro v' w3 hown' hgrow _
            have HB4 : Hid (Below w.heap.size w w3) := hid ((HB3.out.alloc HB3.out.size _).grown hgrow (by have := HB3.out.size; simp; omega) (fun k h => (World.ownsRow.lt HO3.out k h).1))
            have HL4 := hid (own_len hown')
            have HO4 : Hid (w3.ownsRow w.heap.size 5 1 v' (Z.length + (p + 1)) (byt (Z ++ List.replicate (p + 1) 0))) := hid (by
              rw [List.replicate_succ', ← List.append_assoc, byt_append, ← Nat.add_assoc]; exact hown')
            clear hown' hgrow
            go_wp2
            go_roundw
            case rel => exact ⟨p + 1, by omega, HO4.out, HB4.out⟩
            case measure => rw [HL4.out]; simp [lenOf]; omega

      | some ad =>
        have hC : ∀ j u, (byt xss[k])[j]? = some u → wr.cell? (ad.add j) = some u := by
          intro j u hj
          rcases HRR.out with h | ⟨b', o', h, hc'⟩
          · rw [h] at hj; simp at hj
          · obtain rfl : ad = ⟨b', o', none⟩ := by simpa using h
            obtain ⟨h1, h2⟩ := List.getElem?_eq_some_iff.1 hj
            have hadd : (⟨b', o', none⟩ : Addr).add j = ⟨b', o' + j, none⟩ := by unfold Addr.add; split <;> simp_all
            rw [hadd, hc' j h1, h2]
        have HC2 := hid hC
        clear hC
        go_wp2_with (first | (at_builtin; refine wpList_append_own _ rfl _ _ 23 rfl w.heap.size 5 i0 (.int .u8 0) 1 1 Tryz.underlying23 hi hz0 hz1 hz2 rfl (by decide) _ (join (xss.take k)).length _ rfl HO.out ad xss[k].length c' (byt xss[k]) rfl (by rw [byt_len, Nat.mul_one]) HC2.out (byt_one _) (by unfold maxLen; omega) (by omega) HB.out.size ?_))
        intro v1 w1 hown1 hgrow1 _
        have HBz : Hid (Below w.heap.size w w1) := hid (HB.out.grown hgrow1 HB.out.size (fun k h => (World.ownsRow.lt HO.out k h).1))
        have HOz : Hid (w1.ownsRow w.heap.size 5 1 v1 Z.length (byt Z)) := hid (by
          rw [HZ.out, byt_append, List.length_append]; exact hown1)
        clear hown1 hgrow1
        go_wp2
        go_loopw [3] (fun v wx => ∃ p : Nat, p ≤ padn Z.length ∧ wx.ownsRow w.heap.size 5 1 v (Z.length + p) (byt (Z ++ List.replicate p 0)) ∧ Below w.heap.size w wx) (fun v _ => padn Z.length + Z.length - lenOf v)
        case atStart => exact ⟨0, Nat.zero_le _, by simpa using HOz.out, HBz.out⟩
        case round =>
          obtain ⟨p, hp, how, hbe⟩ := hrel
          have hp7 := padn_le Z.length
          have HD := hid (padn_done hp)
          obtain ⟨a2, c2, rfl, _⟩ := rd_own how
          have HO3 := hid how
          have HB3 := hid hbe
          clear how hbe HOz HBz
          by_cases hd : p = padn Z.length
          · have ht : (((Z.length : Int) + (p : Int)) % 8 != 0) = false := by
              have := HD.out.2 hd
              simp; omega
            have HO4 : Hid (wr.ownsRow w.heap.size 5 1 (.slice a2 (Z.length + p) c2) (join (xss.take (k + 1))).length (byt (join (xss.take (k + 1))))) := hid (by
              rw [HJ.out]
              have h := HO3.out
              have e : Z ++ List.replicate p 0 = joinStep (join (xss.take k)) xss[k] := by rw [hd, HZ.out]; rfl
              have e2 : Z.length + p = (joinStep (join (xss.take k)) xss[k]).length := by rw [← e]; simp
              rw [e] at h
              rw [← e2]; exact h)
            have HLE2 : Hid ((join (xss.take (k + 1))).length ≤ tot (xss.take (k + 1)) + 8 * (k + 1)) := hid (by
              rw [HJ.out, joinStep_len, HTS.out]
              have := padn_le ((join (xss.take k)).length + xss[k].length)
              have := HLE.out; omega)
            clear hd
            go_wp2
            go_roundw
            case rel => exact ⟨k + 1, by omega, by go_num, HO4.out, HLE2.out, HB3.out⟩
            case measure => simp [intOf]; omega
          · have ht : (((Z.length : Int) + (p : Int)) % 8 != 0) = true := by
              have := mt HD.out.1 hd
              simp; omega
            go_wp2_with (first | (at_builtin; refine wpList_append_own _ rfl _ _ 23 rfl w.heap.size 5 i0 (.int .u8 0) 1 1 Tryz.underlying23 hi hz0 hz1 hz2 rfl (by decide) _ (Z.length + p) _ rfl (HO3.out.alloc _) ⟨wr.heap.size, 0, none⟩ 1 1 [.int .u8 0] rfl rfl (cell_one_new _ _ _) (one_cell rfl) (by unfold maxLen; omega) (by omega) (by have := HB3.out.size; simp; omega) ?_))
            intro v' w3 hown' hgrow _
            have HB4 : Hid (Below w.heap.size w w3) := hid ((HB3.out.alloc HB3.out.size _).grown hgrow (by have := HB3.out.size; simp; omega) (fun k h => (World.ownsRow.lt HO3.out k h).1))
            have HL4 := hid (own_len hown')
            have HO4 : Hid (w3.ownsRow w.heap.size 5 1 v' (Z.length + (p + 1)) (byt (Z ++ List.replicate (p + 1) 0))) := hid (by
              rw [List.replicate_succ', ← List.append_assoc, byt_append, ← Nat.add_assoc]; exact hown')
            clear hown' hgrow
            go_wp2
            go_roundw
            case rel => exact ⟨p + 1, by omega, HO4.out, HB4.out⟩
            case measure => rw [HL4.out]; simp [lenOf]; omega

    · obtain rfl : k = xss.length := by omega
      have hO := HO.out
      rw [List.take_length] at hO
      obtain ⟨a', c', rfl, _⟩ := rd_own hO
      have HO2 := hid hO
      clear hO HO
      go_wp2
      go_ret
      exact ⟨_, _, rfl, HO2.out, HB.out⟩
end Go.Proofs.YtfaehioeepolhaaGreat
