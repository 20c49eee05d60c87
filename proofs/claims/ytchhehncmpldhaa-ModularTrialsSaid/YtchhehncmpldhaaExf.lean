/- The calculation for the primes from 2049 to 65535. -/
import Derived.Test.YtchhehncmpldhaaExd
namespace Ob
set_option maxRecDepth 1000000 in
theorem lb1_2049 : lb1 384 2049 = true := by decide +kernel
set_option maxRecDepth 1000000 in
theorem lb1_2817 : lb1 640 2817 = true := by decide +kernel
set_option maxRecDepth 1000000 in
theorem lb1_4097 : lb1 2048 4097 = true := by decide +kernel
set_option maxRecDepth 1000000 in
theorem lb1_8193 : lb1 2048 8193 = true := by decide +kernel
set_option maxRecDepth 1000000 in
theorem lb1_12289 : lb1 2048 12289 = true := by decide +kernel
set_option maxRecDepth 1000000 in
theorem lb1_16385 : lb1 2048 16385 = true := by decide +kernel
set_option maxRecDepth 1000000 in
theorem lb1_20481 : lb1 2048 20481 = true := by decide +kernel
set_option maxRecDepth 1000000 in
theorem lb1_24577 : lb1 2048 24577 = true := by decide +kernel
set_option maxRecDepth 1000000 in
theorem lb1_28673 : lb1 2048 28673 = true := by decide +kernel
set_option maxRecDepth 1000000 in
theorem lb1_32769 : lb1 2048 32769 = true := by decide +kernel
set_option maxRecDepth 1000000 in
theorem lb1_36865 : lb1 2048 36865 = true := by decide +kernel
set_option maxRecDepth 1000000 in
theorem lb1_40961 : lb1 2048 40961 = true := by decide +kernel
set_option maxRecDepth 1000000 in
theorem lb1_45057 : lb1 2048 45057 = true := by decide +kernel
set_option maxRecDepth 1000000 in
theorem lb1_49153 : lb1 2048 49153 = true := by decide +kernel
set_option maxRecDepth 1000000 in
theorem lb1_53249 : lb1 2048 53249 = true := by decide +kernel
set_option maxRecDepth 1000000 in
theorem lb1_57345 : lb1 2048 57345 = true := by decide +kernel
set_option maxRecDepth 1000000 in
theorem lb1_61441 : lb1 2048 61441 = true := by decide +kernel
end Ob
