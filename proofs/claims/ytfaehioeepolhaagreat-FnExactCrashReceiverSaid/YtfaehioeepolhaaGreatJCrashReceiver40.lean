import Derived.Test.YtfaehioeepolhaaGreatJCrashReceiver14
import Derived.Test.YtfaehioeepolhaaGreatJCrashReceiver1
import Derived.Handy
namespace Go.Proofs.YtfaehioeepolhaaGreat
open Go.RowKit
set_option maxHeartbeats 1000000 in
theorem within_any (n lo hi : Int) (w : World) : Calls Tryz.prog 44 #[.int .i64 n, .int .i64 lo, .int .i64 hi] w fun e w' => e = .returned (.bool (decide (lo ≤ n ∧ n ≤ hi))) ∧ w' = w := by
  by_cases h1 : lo ≤ n
  · have HD : Hid (decide (lo ≤ n ∧ n ≤ hi) = decide (n ≤ hi)) := hid (by by_cases h2 : n ≤ hi <;> simp [h1, h2])
    rw [HD.out]
    go_enter Tryz.func44, Tryz.ntmps44
    go_wp2
    go_ret
    exact ⟨rfl, rfl⟩
  · have HD : Hid (decide (lo ≤ n ∧ n ≤ hi) = false) := hid (decide_eq_false (fun h => h1 h.1))
    rw [HD.out]
    go_enter Tryz.func44, Tryz.ntmps44
    go_wp2
    go_ret
    exact ⟨rfl, rfl⟩
set_option maxHeartbeats 4000000 in
theorem validPacket_raw (kind epoch seq count : Int) (last : Bool) (a : Option Addr) (n cap : Nat) (w : World) (B : Bool) (hT : (1 ≤ epoch ∧ epoch ≤ 1000000000 ∧ 0 ≤ seq ∧ seq ≤ 1000000000000 ∧ 0 ≤ count ∧ count ≤ 1000000000 ∧ ((kind = 1 ∧ seq < 1000000000000 ∧ count = 0 ∧ 1 ≤ n ∧ n ≤ 100) ∨ (lastN last = 0 ∧ n = 0 ∧ (kind = 2 ∨ (kind = 3 ∧ seq = 0) ∨ (kind = 4 ∧ seq = 0 ∧ count = 0))))) → B = true) (hF : ¬ (1 ≤ epoch ∧ epoch ≤ 1000000000 ∧ 0 ≤ seq ∧ seq ≤ 1000000000000 ∧ 0 ≤ count ∧ count ≤ 1000000000 ∧ ((kind = 1 ∧ seq < 1000000000000 ∧ count = 0 ∧ 1 ≤ n ∧ n ≤ 100) ∨ (lastN last = 0 ∧ n = 0 ∧ (kind = 2 ∨ (kind = 3 ∧ seq = 0) ∨ (kind = 4 ∧ seq = 0 ∧ count = 0))))) → B = false) (hn : n ≤ maxLen) :
    Calls Tryz.prog 140 #[.agg #[.int .i64 kind, .int .i64 epoch, .int .i64 seq, .int .i64 count, .bool last, .slice a n cap]] w fun e w' => e = .returned (.bool B) ∧ Below w.heap.size w w' := by
  have HT := hid hT
  have HF := hid hF
  unfold maxLen at hn
  clear hT hF
  have HE := hid (within_any epoch 1 1000000000 (w.alloc (.cells #[.int .i64 kind, .int .i64 epoch, .int .i64 seq, .int .i64 count, .bool last, .slice a n cap] 120)))
  have HS := hid (within_any seq 0 1000000000000 (w.alloc (.cells #[.int .i64 kind, .int .i64 epoch, .int .i64 seq, .int .i64 count, .bool last, .slice a n cap] 120)))
  have HC := hid (within_any count 0 1000000000 (w.alloc (.cells #[.int .i64 kind, .int .i64 epoch, .int .i64 seq, .int .i64 count, .bool last, .slice a n cap] 120)))
  have HL := hid (within_any (n : Int) 1 100 (w.alloc (.cells #[.int .i64 kind, .int .i64 epoch, .int .i64 seq, .int .i64 count, .bool last, .slice a n cap] 120)))
  by_cases we : 1 ≤ epoch ∧ epoch ≤ 1000000000
  · rw [decide_eq_true we] at HE
    by_cases ws : 0 ≤ seq ∧ seq ≤ 1000000000000
    · rw [decide_eq_true ws] at HS
      by_cases wc : 0 ≤ count ∧ count ≤ 1000000000
      · rw [decide_eq_true wc] at HC
        cases last with
        | true =>
          have hl : lastN true = 1 := rfl
          by_cases k1 : kind = 1
          · subst k1
            by_cases d1 : seq < 1000000000000
            · by_cases d0 : count = 0
              · subst d0
                by_cases dl : 1 ≤ (n : Int) ∧ (n : Int) ≤ 100
                · rw [decide_eq_true dl] at HL
                  have HB := hid (HT.out (by omega))
                  try clear n0
                  go_enter Tryz.func140, Tryz.ntmps140
                  go_wp2_with fail
                  refine (HE.out).mono ?_
                  rintro e w1 ⟨rfl, rfl⟩
                  go_wp2_with fail
                  refine (HS.out).mono ?_
                  rintro e w1 ⟨rfl, rfl⟩
                  go_wp2_with fail
                  refine (HC.out).mono ?_
                  rintro e w1 ⟨rfl, rfl⟩
                  go_wp2_with fail
                  refine (HL.out).mono ?_
                  rintro e w1 ⟨rfl, rfl⟩
                  go_wp2
                  go_ret
                  exact ⟨(by rw [HB.out]; first | done | rfl), below_new1 _ _⟩
                rw [decide_eq_false dl] at HL
                have HB := hid (HF.out (by omega))
                try clear n0
                go_enter Tryz.func140, Tryz.ntmps140
                go_wp2_with fail
                refine (HE.out).mono ?_
                rintro e w1 ⟨rfl, rfl⟩
                go_wp2_with fail
                refine (HS.out).mono ?_
                rintro e w1 ⟨rfl, rfl⟩
                go_wp2_with fail
                refine (HC.out).mono ?_
                rintro e w1 ⟨rfl, rfl⟩
                go_wp2_with fail
                refine (HL.out).mono ?_
                rintro e w1 ⟨rfl, rfl⟩
                go_wp2
                go_ret
                exact ⟨(by rw [HB.out]; first | done | rfl), below_new1 _ _⟩
              have d0' : (count == 0) = false := by simpa using d0
              have HB := hid (HF.out (by omega))
              try clear n0
              go_enter Tryz.func140, Tryz.ntmps140
              go_wp2_with fail
              refine (HE.out).mono ?_
              rintro e w1 ⟨rfl, rfl⟩
              go_wp2_with fail
              refine (HS.out).mono ?_
              rintro e w1 ⟨rfl, rfl⟩
              go_wp2_with fail
              refine (HC.out).mono ?_
              rintro e w1 ⟨rfl, rfl⟩
              go_wp2
              go_ret
              exact ⟨(by rw [HB.out]; first | done | rfl), below_new1 _ _⟩
            have HB := hid (HF.out (by omega))
            try clear n0
            go_enter Tryz.func140, Tryz.ntmps140
            go_wp2_with fail
            refine (HE.out).mono ?_
            rintro e w1 ⟨rfl, rfl⟩
            go_wp2_with fail
            refine (HS.out).mono ?_
            rintro e w1 ⟨rfl, rfl⟩
            go_wp2_with fail
            refine (HC.out).mono ?_
            rintro e w1 ⟨rfl, rfl⟩
            go_wp2
            go_ret
            exact ⟨(by rw [HB.out]; first | done | rfl), below_new1 _ _⟩
          have k1' : (kind == 1) = false := by simpa using k1
          by_cases k2 : kind = 2
          · subst k2
            have HB := hid (HF.out (by omega))
            try clear n0
            go_enter Tryz.func140, Tryz.ntmps140
            go_wp2_with fail
            refine (HE.out).mono ?_
            rintro e w1 ⟨rfl, rfl⟩
            go_wp2_with fail
            refine (HS.out).mono ?_
            rintro e w1 ⟨rfl, rfl⟩
            go_wp2_with fail
            refine (HC.out).mono ?_
            rintro e w1 ⟨rfl, rfl⟩
            go_wp2
            go_ret
            exact ⟨(by rw [HB.out]; first | done | rfl), below_new1 _ _⟩
          have k2' : (kind == 2) = false := by simpa using k2
          by_cases k3 : kind = 3
          · subst k3
            have HB := hid (HF.out (by omega))
            try clear n0
            go_enter Tryz.func140, Tryz.ntmps140
            go_wp2_with fail
            refine (HE.out).mono ?_
            rintro e w1 ⟨rfl, rfl⟩
            go_wp2_with fail
            refine (HS.out).mono ?_
            rintro e w1 ⟨rfl, rfl⟩
            go_wp2_with fail
            refine (HC.out).mono ?_
            rintro e w1 ⟨rfl, rfl⟩
            go_wp2
            go_ret
            exact ⟨(by rw [HB.out]; first | done | rfl), below_new1 _ _⟩
          have k3' : (kind == 3) = false := by simpa using k3
          by_cases k4 : kind = 4
          · subst k4
            have HB := hid (HF.out (by omega))
            try clear n0
            go_enter Tryz.func140, Tryz.ntmps140
            go_wp2_with fail
            refine (HE.out).mono ?_
            rintro e w1 ⟨rfl, rfl⟩
            go_wp2_with fail
            refine (HS.out).mono ?_
            rintro e w1 ⟨rfl, rfl⟩
            go_wp2_with fail
            refine (HC.out).mono ?_
            rintro e w1 ⟨rfl, rfl⟩
            go_wp2
            go_ret
            exact ⟨(by rw [HB.out]; first | done | rfl), below_new1 _ _⟩
          have k4' : (kind == 4) = false := by simpa using k4
          have HB := hid (HF.out (by omega))
          try clear n0
          go_enter Tryz.func140, Tryz.ntmps140
          go_wp2_with fail
          refine (HE.out).mono ?_
          rintro e w1 ⟨rfl, rfl⟩
          go_wp2_with fail
          refine (HS.out).mono ?_
          rintro e w1 ⟨rfl, rfl⟩
          go_wp2_with fail
          refine (HC.out).mono ?_
          rintro e w1 ⟨rfl, rfl⟩
          go_wp2
          go_ret
          exact ⟨(by rw [HB.out]; first | done | rfl), below_new1 _ _⟩
        | false =>
          have hl : lastN false = 0 := rfl
          by_cases n0 : n = 0
          · have n0' : ((n : Int) == 0) = true := by simp; omega
            by_cases k1 : kind = 1
            · subst k1
              by_cases d1 : seq < 1000000000000
              · by_cases d0 : count = 0
                · subst d0
                  by_cases dl : 1 ≤ (n : Int) ∧ (n : Int) ≤ 100
                  · rw [decide_eq_true dl] at HL
                    have HB := hid (HT.out (by omega))
                    try clear n0
                    go_enter Tryz.func140, Tryz.ntmps140
                    go_wp2_with fail
                    refine (HE.out).mono ?_
                    rintro e w1 ⟨rfl, rfl⟩
                    go_wp2_with fail
                    refine (HS.out).mono ?_
                    rintro e w1 ⟨rfl, rfl⟩
                    go_wp2_with fail
                    refine (HC.out).mono ?_
                    rintro e w1 ⟨rfl, rfl⟩
                    go_wp2_with fail
                    refine (HL.out).mono ?_
                    rintro e w1 ⟨rfl, rfl⟩
                    go_wp2
                    go_ret
                    exact ⟨(by rw [HB.out]; first | done | rfl), below_new1 _ _⟩
                  rw [decide_eq_false dl] at HL
                  have HB := hid (HF.out (by omega))
                  try clear n0
                  go_enter Tryz.func140, Tryz.ntmps140
                  go_wp2_with fail
                  refine (HE.out).mono ?_
                  rintro e w1 ⟨rfl, rfl⟩
                  go_wp2_with fail
                  refine (HS.out).mono ?_
                  rintro e w1 ⟨rfl, rfl⟩
                  go_wp2_with fail
                  refine (HC.out).mono ?_
                  rintro e w1 ⟨rfl, rfl⟩
                  go_wp2_with fail
                  refine (HL.out).mono ?_
                  rintro e w1 ⟨rfl, rfl⟩
                  go_wp2
                  go_ret
                  exact ⟨(by rw [HB.out]; first | done | rfl), below_new1 _ _⟩
                have d0' : (count == 0) = false := by simpa using d0
                have HB := hid (HF.out (by omega))
                try clear n0
                go_enter Tryz.func140, Tryz.ntmps140
                go_wp2_with fail
                refine (HE.out).mono ?_
                rintro e w1 ⟨rfl, rfl⟩
                go_wp2_with fail
                refine (HS.out).mono ?_
                rintro e w1 ⟨rfl, rfl⟩
                go_wp2_with fail
                refine (HC.out).mono ?_
                rintro e w1 ⟨rfl, rfl⟩
                go_wp2
                go_ret
                exact ⟨(by rw [HB.out]; first | done | rfl), below_new1 _ _⟩
              have HB := hid (HF.out (by omega))
              try clear n0
              go_enter Tryz.func140, Tryz.ntmps140
              go_wp2_with fail
              refine (HE.out).mono ?_
              rintro e w1 ⟨rfl, rfl⟩
              go_wp2_with fail
              refine (HS.out).mono ?_
              rintro e w1 ⟨rfl, rfl⟩
              go_wp2_with fail
              refine (HC.out).mono ?_
              rintro e w1 ⟨rfl, rfl⟩
              go_wp2
              go_ret
              exact ⟨(by rw [HB.out]; first | done | rfl), below_new1 _ _⟩
            have k1' : (kind == 1) = false := by simpa using k1
            by_cases k2 : kind = 2
            · subst k2
              have HB := hid (HT.out (by omega))
              try clear n0
              go_enter Tryz.func140, Tryz.ntmps140
              go_wp2_with fail
              refine (HE.out).mono ?_
              rintro e w1 ⟨rfl, rfl⟩
              go_wp2_with fail
              refine (HS.out).mono ?_
              rintro e w1 ⟨rfl, rfl⟩
              go_wp2_with fail
              refine (HC.out).mono ?_
              rintro e w1 ⟨rfl, rfl⟩
              go_wp2
              go_ret
              exact ⟨(by rw [HB.out]; first | done | rfl), below_new1 _ _⟩
            have k2' : (kind == 2) = false := by simpa using k2
            by_cases k3 : kind = 3
            · subst k3
              by_cases s0 : seq = 0
              · subst s0
                have HB := hid (HT.out (by omega))
                try clear n0
                go_enter Tryz.func140, Tryz.ntmps140
                go_wp2_with fail
                refine (HE.out).mono ?_
                rintro e w1 ⟨rfl, rfl⟩
                go_wp2_with fail
                refine (HS.out).mono ?_
                rintro e w1 ⟨rfl, rfl⟩
                go_wp2_with fail
                refine (HC.out).mono ?_
                rintro e w1 ⟨rfl, rfl⟩
                go_wp2
                go_ret
                exact ⟨(by rw [HB.out]; first | done | rfl), below_new1 _ _⟩
              have s0' : (seq == 0) = false := by simpa using s0
              have HB := hid (HF.out (by omega))
              try clear n0
              go_enter Tryz.func140, Tryz.ntmps140
              go_wp2_with fail
              refine (HE.out).mono ?_
              rintro e w1 ⟨rfl, rfl⟩
              go_wp2_with fail
              refine (HS.out).mono ?_
              rintro e w1 ⟨rfl, rfl⟩
              go_wp2_with fail
              refine (HC.out).mono ?_
              rintro e w1 ⟨rfl, rfl⟩
              go_wp2
              go_ret
              exact ⟨(by rw [HB.out]; first | done | rfl), below_new1 _ _⟩
            have k3' : (kind == 3) = false := by simpa using k3
            by_cases k4 : kind = 4
            · subst k4
              by_cases s0 : seq = 0
              · subst s0
                by_cases x0 : count = 0
                · subst x0
                  have HB := hid (HT.out (by omega))
                  try clear n0
                  go_enter Tryz.func140, Tryz.ntmps140
                  go_wp2_with fail
                  refine (HE.out).mono ?_
                  rintro e w1 ⟨rfl, rfl⟩
                  go_wp2_with fail
                  refine (HS.out).mono ?_
                  rintro e w1 ⟨rfl, rfl⟩
                  go_wp2_with fail
                  refine (HC.out).mono ?_
                  rintro e w1 ⟨rfl, rfl⟩
                  go_wp2
                  go_ret
                  exact ⟨(by rw [HB.out]; first | done | rfl), below_new1 _ _⟩
                have x0' : (count == 0) = false := by simpa using x0
                have HB := hid (HF.out (by omega))
                try clear n0
                go_enter Tryz.func140, Tryz.ntmps140
                go_wp2_with fail
                refine (HE.out).mono ?_
                rintro e w1 ⟨rfl, rfl⟩
                go_wp2_with fail
                refine (HS.out).mono ?_
                rintro e w1 ⟨rfl, rfl⟩
                go_wp2_with fail
                refine (HC.out).mono ?_
                rintro e w1 ⟨rfl, rfl⟩
                go_wp2
                go_ret
                exact ⟨(by rw [HB.out]; first | done | rfl), below_new1 _ _⟩
              have s0' : (seq == 0) = false := by simpa using s0
              have HB := hid (HF.out (by omega))
              try clear n0
              go_enter Tryz.func140, Tryz.ntmps140
              go_wp2_with fail
              refine (HE.out).mono ?_
              rintro e w1 ⟨rfl, rfl⟩
              go_wp2_with fail
              refine (HS.out).mono ?_
              rintro e w1 ⟨rfl, rfl⟩
              go_wp2_with fail
              refine (HC.out).mono ?_
              rintro e w1 ⟨rfl, rfl⟩
              go_wp2
              go_ret
              exact ⟨(by rw [HB.out]; first | done | rfl), below_new1 _ _⟩
            have k4' : (kind == 4) = false := by simpa using k4
            have HB := hid (HF.out (by omega))
            try clear n0
            go_enter Tryz.func140, Tryz.ntmps140
            go_wp2_with fail
            refine (HE.out).mono ?_
            rintro e w1 ⟨rfl, rfl⟩
            go_wp2_with fail
            refine (HS.out).mono ?_
            rintro e w1 ⟨rfl, rfl⟩
            go_wp2_with fail
            refine (HC.out).mono ?_
            rintro e w1 ⟨rfl, rfl⟩
            go_wp2
            go_ret
            exact ⟨(by rw [HB.out]; first | done | rfl), below_new1 _ _⟩
          have n0' : ((n : Int) == 0) = false := by simp; omega
          by_cases k1 : kind = 1
          · subst k1
            by_cases d1 : seq < 1000000000000
            · by_cases d0 : count = 0
              · subst d0
                by_cases dl : 1 ≤ (n : Int) ∧ (n : Int) ≤ 100
                · rw [decide_eq_true dl] at HL
                  have HB := hid (HT.out (by omega))
                  try clear n0
                  go_enter Tryz.func140, Tryz.ntmps140
                  go_wp2_with fail
                  refine (HE.out).mono ?_
                  rintro e w1 ⟨rfl, rfl⟩
                  go_wp2_with fail
                  refine (HS.out).mono ?_
                  rintro e w1 ⟨rfl, rfl⟩
                  go_wp2_with fail
                  refine (HC.out).mono ?_
                  rintro e w1 ⟨rfl, rfl⟩
                  go_wp2_with fail
                  refine (HL.out).mono ?_
                  rintro e w1 ⟨rfl, rfl⟩
                  go_wp2
                  go_ret
                  exact ⟨(by rw [HB.out]; first | done | rfl), below_new1 _ _⟩
                rw [decide_eq_false dl] at HL
                have HB := hid (HF.out (by omega))
                try clear n0
                go_enter Tryz.func140, Tryz.ntmps140
                go_wp2_with fail
                refine (HE.out).mono ?_
                rintro e w1 ⟨rfl, rfl⟩
                go_wp2_with fail
                refine (HS.out).mono ?_
                rintro e w1 ⟨rfl, rfl⟩
                go_wp2_with fail
                refine (HC.out).mono ?_
                rintro e w1 ⟨rfl, rfl⟩
                go_wp2_with fail
                refine (HL.out).mono ?_
                rintro e w1 ⟨rfl, rfl⟩
                go_wp2
                go_ret
                exact ⟨(by rw [HB.out]; first | done | rfl), below_new1 _ _⟩
              have d0' : (count == 0) = false := by simpa using d0
              have HB := hid (HF.out (by omega))
              try clear n0
              go_enter Tryz.func140, Tryz.ntmps140
              go_wp2_with fail
              refine (HE.out).mono ?_
              rintro e w1 ⟨rfl, rfl⟩
              go_wp2_with fail
              refine (HS.out).mono ?_
              rintro e w1 ⟨rfl, rfl⟩
              go_wp2_with fail
              refine (HC.out).mono ?_
              rintro e w1 ⟨rfl, rfl⟩
              go_wp2
              go_ret
              exact ⟨(by rw [HB.out]; first | done | rfl), below_new1 _ _⟩
            have HB := hid (HF.out (by omega))
            try clear n0
            go_enter Tryz.func140, Tryz.ntmps140
            go_wp2_with fail
            refine (HE.out).mono ?_
            rintro e w1 ⟨rfl, rfl⟩
            go_wp2_with fail
            refine (HS.out).mono ?_
            rintro e w1 ⟨rfl, rfl⟩
            go_wp2_with fail
            refine (HC.out).mono ?_
            rintro e w1 ⟨rfl, rfl⟩
            go_wp2
            go_ret
            exact ⟨(by rw [HB.out]; first | done | rfl), below_new1 _ _⟩
          have k1' : (kind == 1) = false := by simpa using k1
          by_cases k2 : kind = 2
          · subst k2
            have HB := hid (HF.out (by omega))
            try clear n0
            go_enter Tryz.func140, Tryz.ntmps140
            go_wp2_with fail
            refine (HE.out).mono ?_
            rintro e w1 ⟨rfl, rfl⟩
            go_wp2_with fail
            refine (HS.out).mono ?_
            rintro e w1 ⟨rfl, rfl⟩
            go_wp2_with fail
            refine (HC.out).mono ?_
            rintro e w1 ⟨rfl, rfl⟩
            go_wp2
            go_ret
            exact ⟨(by rw [HB.out]; first | done | rfl), below_new1 _ _⟩
          have k2' : (kind == 2) = false := by simpa using k2
          by_cases k3 : kind = 3
          · subst k3
            have HB := hid (HF.out (by omega))
            try clear n0
            go_enter Tryz.func140, Tryz.ntmps140
            go_wp2_with fail
            refine (HE.out).mono ?_
            rintro e w1 ⟨rfl, rfl⟩
            go_wp2_with fail
            refine (HS.out).mono ?_
            rintro e w1 ⟨rfl, rfl⟩
            go_wp2_with fail
            refine (HC.out).mono ?_
            rintro e w1 ⟨rfl, rfl⟩
            go_wp2
            go_ret
            exact ⟨(by rw [HB.out]; first | done | rfl), below_new1 _ _⟩
          have k3' : (kind == 3) = false := by simpa using k3
          by_cases k4 : kind = 4
          · subst k4
            have HB := hid (HF.out (by omega))
            try clear n0
            go_enter Tryz.func140, Tryz.ntmps140
            go_wp2_with fail
            refine (HE.out).mono ?_
            rintro e w1 ⟨rfl, rfl⟩
            go_wp2_with fail
            refine (HS.out).mono ?_
            rintro e w1 ⟨rfl, rfl⟩
            go_wp2_with fail
            refine (HC.out).mono ?_
            rintro e w1 ⟨rfl, rfl⟩
            go_wp2
            go_ret
            exact ⟨(by rw [HB.out]; first | done | rfl), below_new1 _ _⟩
          have k4' : (kind == 4) = false := by simpa using k4
          have HB := hid (HF.out (by omega))
          try clear n0
          go_enter Tryz.func140, Tryz.ntmps140
          go_wp2_with fail
          refine (HE.out).mono ?_
          rintro e w1 ⟨rfl, rfl⟩
          go_wp2_with fail
          refine (HS.out).mono ?_
          rintro e w1 ⟨rfl, rfl⟩
          go_wp2_with fail
          refine (HC.out).mono ?_
          rintro e w1 ⟨rfl, rfl⟩
          go_wp2
          go_ret
          exact ⟨(by rw [HB.out]; first | done | rfl), below_new1 _ _⟩
      rw [decide_eq_false wc] at HC
      have HB := hid (HF.out (by omega))
      try clear n0
      go_enter Tryz.func140, Tryz.ntmps140
      go_wp2_with fail
      refine (HE.out).mono ?_
      rintro e w1 ⟨rfl, rfl⟩
      go_wp2_with fail
      refine (HS.out).mono ?_
      rintro e w1 ⟨rfl, rfl⟩
      go_wp2_with fail
      refine (HC.out).mono ?_
      rintro e w1 ⟨rfl, rfl⟩
      go_wp2
      go_ret
      exact ⟨(by rw [HB.out]; first | done | rfl), below_new1 _ _⟩
    rw [decide_eq_false ws] at HS
    have HB := hid (HF.out (by omega))
    try clear n0
    go_enter Tryz.func140, Tryz.ntmps140
    go_wp2_with fail
    refine (HE.out).mono ?_
    rintro e w1 ⟨rfl, rfl⟩
    go_wp2_with fail
    refine (HS.out).mono ?_
    rintro e w1 ⟨rfl, rfl⟩
    go_wp2
    go_ret
    exact ⟨(by rw [HB.out]; first | done | rfl), below_new1 _ _⟩
  rw [decide_eq_false we] at HE
  have HB := hid (HF.out (by omega))
  try clear n0
  go_enter Tryz.func140, Tryz.ntmps140
  go_wp2_with fail
  refine (HE.out).mono ?_
  rintro e w1 ⟨rfl, rfl⟩
  go_wp2
  go_ret
  exact ⟨(by rw [HB.out]; first | done | rfl), below_new1 _ _⟩
theorem validPacket_any (p : PP) (a : Option Addr) (cap : Nat) (w : World) (hn : p.data.length ≤ maxLen) :
    Calls Tryz.prog 140 #[.agg #[.int .i64 p.kind, .int .i64 p.epoch, .int .i64 p.seq, .int .i64 p.count, .bool p.last, .slice a p.data.length cap]] w fun e w' => e = .returned (.bool (pktOK p)) ∧ Below w.heap.size w w' :=
  validPacket_raw p.kind p.epoch p.seq p.count p.last a p.data.length cap w (pktOK p) (fun h => decide_eq_true h) (fun h => decide_eq_false h) hn
end Go.Proofs.YtfaehioeepolhaaGreat
